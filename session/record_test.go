package session_test

import (
	"math"
	"testing"

	"veneer/api"
	"veneer/session"
)

// The chapter's example.
func TestExample(t *testing.T) {
	s := made(t, 5, kept(1, 1, 10, "abc"), kept(2, 7, 11, "de"))
	looks(t, "example", s, 1, 1, session.Kept, "abc")
	s.Record(3, 1, 12, "f")
	has(t, "example", s, 5, gone(1, 1, 10), kept(2, 7, 11, "de"), kept(3, 1, 12, "f"))
	looks(t, "example", s, 1, 1, session.Forgot, "")
	looks(t, "example", s, 1, 2, session.New, "")
	looks(t, "example", s, 2, 6, session.Old, "")
	looks(t, "example", s, 9, 1, session.Bad, "")
	looks(t, "example", s, 1, 0, session.Bad, "")
	refuses(t, s, 5, 2, 7, 13, "", api.ErrState)
	if e := s.Record(4, 1, 14, "abcdef"); e != api.OK {
		t.Errorf("example: %d", e)
	}
	has(t, "example", s, 5, gone(1, 1, 10), gone(2, 7, 11), gone(3, 1, 12), gone(4, 1, 14))
}

// P14.3: ErrArg, alone and where the others apply, too.
func TestRecordErrArg(t *testing.T) {
	for _, s := range []*session.Table{made(t, 200), made(t, 200, several()...)} {
		for _, reply := range []string{"", "x", text(api.MaxReply), text(api.MaxReply + 1)} {
			for _, client := range noClients() {
				for _, number := range append(noNumbers(), 1, api.Greatest) {
					refuses(t, s, 200, client, number, 1, reply, api.ErrArg)
				}
			}
			for client := 1; client <= api.MaxClients; client++ {
				for _, number := range noNumbers() {
					refuses(t, s, 200, client, number, 1, reply, api.ErrArg)
				}
			}
		}
	}
}

// P14.3: ErrState, alone and where ErrLong applies, too: the same number (kept or not) and each one below.
func TestRecordErrState(t *testing.T) {
	s := made(t, 200, several()...)
	for _, seat := range several() {
		for _, reply := range []string{"", seat.Reply, "x", text(api.MaxReply), text(api.MaxReply + 1), text(100000)} {
			for _, number := range []int64{seat.Number, seat.Number - 1, 1, seat.Number/2 + 1} {
				if number > 0 && number <= seat.Number {
					refuses(t, s, 200, seat.Client, number, seat.At, reply, api.ErrState)
					refuses(t, s, 200, seat.Client, number, 5, reply, api.ErrState)
				}
			}
		}
	}
}

// P14.3: ErrLong, whatever room there is; at MaxReply there is none.
func TestRecordErrLong(t *testing.T) {
	for _, room := range []int{0, 150, api.MaxReply} {
		for _, size := range []int{api.MaxReply + 1, api.MaxReply + 2, 2 * api.MaxReply, 100000} {
			refuses(t, made(t, room), room, 1, 1, 1, text(size), api.ErrLong)
			if room > 0 {
				s := made(t, room, several()...)
				refuses(t, s, room, 5, 1, math.MinInt64, text(size), api.ErrLong)
				refuses(t, s, room, 1, 2, math.MaxInt64, text(size), api.ErrLong)
			}
		}
	}
	for _, size := range []int{api.MaxReply - 1, api.MaxReply} {
		s := made(t, api.MaxReply)
		if e := s.Record(8, api.Greatest, 1, text(size)); e != api.OK {
			t.Errorf("P14.3: a reply of %d bytes: %d", size, e)
		}
		has(t, "P14.3: the longest reply", s, api.MaxReply, kept(8, api.Greatest, 1, text(size)))
	}
	s := made(t, 0)
	if e := s.Record(1, 1, 1, text(api.MaxReply)); e != api.OK {
		t.Errorf("P14.3: the longest reply, room 0: %d", e)
	}
	has(t, "P14.3: the longest reply, room 0", s, 0, gone(1, 1, 1))
}

// P14.3: the least and greatest clients, numbers and times are taken as they are.
func TestRecordBounds(t *testing.T) {
	for client := 1; client <= api.MaxClients; client++ {
		for _, number := range []int64{1, 2, api.Greatest - 1, api.Greatest} {
			for _, at := range ats() {
				s := made(t, 9)
				if e := s.Record(client, number, at, "reply"); e != api.OK {
					t.Errorf("P14.3: Record(%d, %d, %d): %d", client, number, at, e)
				}
				has(t, "P14.3: bounds", s, 9, kept(client, number, at, "reply"))
			}
		}
	}
}

// P14.3: a seat is written over, whatever was in it; its At may fall, the others stay.
func TestRecordOver(t *testing.T) {
	for _, old := range []api.Seat{kept(2, 3, 10, "old"), kept(2, 3, 10, ""), gone(2, 3, 10)} {
		for _, seat := range []api.Seat{kept(2, 4, 11, "new"), kept(2, 4, 10, "n"), kept(2, 99, -5, ""), kept(2, api.Greatest, math.MinInt64, "longer")} {
			s := made(t, 20, kept(1, 1, 1, "one"), old, gone(3, 9, 3))
			if e := s.Record(seat.Client, seat.Number, seat.At, seat.Reply); e != api.OK {
				t.Errorf("P14.3: over: %d", e)
			}
			has(t, "P14.3: written over", s, 20, kept(1, 1, 1, "one"), seat, gone(3, 9, 3))
		}
	}
}

// P14.3: the bytes of the reply that is written over count no more, ahead of any other one's going.
func TestRecordOverMakesRoom(t *testing.T) {
	s := made(t, 8, kept(1, 1, 5, "abcd"), kept(2, 1, 1, "efgh"))
	s.Record(1, 2, 6, "ABCD")
	has(t, "P14.3: as many bytes", s, 8, kept(1, 2, 6, "ABCD"), kept(2, 1, 1, "efgh"))
	s.Record(1, 3, 7, "ABCDE")
	has(t, "P14.3: one more", s, 8, kept(1, 3, 7, "ABCDE"), gone(2, 1, 1))
	s = made(t, 4, kept(1, 1, 1, "abcd"))
	s.Record(1, 2, -1, "")
	s.Record(2, 1, -2, "efgh")
	has(t, "P14.3: an empty one", s, 4, kept(1, 2, -1, ""), kept(2, 1, -2, "efgh"))
}

// P14.3: as many replies go as the room asks, one by one, by the least At.
func TestRecordOneByOne(t *testing.T) {
	// Each has one byte more than the one that goes ahead of it.
	order := []int{3, 8, 1, 5, 2, 7, 4}
	for room := 28; room <= 40; room++ {
		for size := 0; size <= 45; size++ {
			s, seats := made(t, room), [9]api.Seat{}
			for i, client := range order {
				seats[client] = kept(client, int64(i+1), int64(10*i-30), text(i+1))
				s.Record(client, int64(i+1), int64(10*i-30), text(i+1))
			}
			seats[6] = kept(6, 2, 1000, text(size))
			if e := s.Record(6, 2, 1000, text(size)); e != api.OK {
				t.Errorf("P14.3: %d", e)
			}
			sum := 28 + size
			for _, client := range append(order, 6) {
				if sum > room {
					sum -= len(seats[client].Reply)
					seats[client] = gone(client, seats[client].Number, seats[client].At)
				}
			}
			has(t, "P14.3: one by one", s, room, seats[1:]...)
		}
	}
}

// P14.3: of several like Ats that of the least client goes, whoever came first.
func TestRecordLikeAts(t *testing.T) {
	for _, at := range ats() {
		for came := 1; came <= api.MaxClients; came++ {
			for size := 1; size <= 9; size++ {
				s, want := made(t, 8), []api.Seat{}
				for client := api.MaxClients; client >= 1; client-- {
					if client != came {
						s.Record(client, 4, at, "x")
					}
				}
				s.Record(came, 4, at, text(size))
				sum := 7 + size
				for client := 1; client <= api.MaxClients; client++ {
					seat := kept(client, 4, at, "x")
					if client == came {
						seat.Reply = text(size)
					}
					if sum > 8 {
						sum -= len(seat.Reply)
						seat = gone(client, 4, at)
					}
					want = append(want, seat)
				}
				has(t, "P14.3: like Ats", s, 8, want...)
			}
		}
	}
}

// P14.3: Ats are held against one another as numbers with a sign, the least and greatest ones, too.
func TestRecordByAt(t *testing.T) {
	for i, less := range ats() {
		for _, more := range ats()[i+1:] {
			for _, r := range [][2]int{{1, 8}, {8, 1}, {4, 5}, {5, 4}} {
				first, last := kept(r[0], 1, less, "ab"), kept(r[1], 1, more, "cd")
				for _, seats := range [][]api.Seat{{first, last}, {last, first}} {
					s := made(t, 3)
					for _, x := range seats {
						s.Record(x.Client, x.Number, x.At, x.Reply)
					}
					looks(t, "P14.3: the lesser At", s, first.Client, 1, session.Forgot, "")
					looks(t, "P14.3: the greater At", s, last.Client, 1, session.Kept, "cd")
				}
			}
		}
	}
}

// P14.3: the one that came goes first, if its At is the least, and alone, if that is enough.
func TestRecordItselfGoes(t *testing.T) {
	s := made(t, 6, kept(1, 1, 10, "abc"), kept(3, 1, 11, "def"))
	s.Record(2, 5, 9, "x")
	has(t, "P14.3: it itself goes", s, 6, kept(1, 1, 10, "abc"), gone(2, 5, 9), kept(3, 1, 11, "def"))
	s.Record(2, 6, 10, "x")
	has(t, "P14.3: a like At, a lesser client", s, 6, gone(1, 1, 10), kept(2, 6, 10, "x"), kept(3, 1, 11, "def"))
	s.Record(4, 1, 8, text(api.MaxReply))
	has(t, "P14.3: a long one goes alone", s, 6, gone(1, 1, 10), kept(2, 6, 10, "x"), kept(3, 1, 11, "def"), gone(4, 1, 8))
	s.Record(1, 2, 10, "xxx")
	has(t, "P14.3: it itself is the least client", s, 6, gone(1, 2, 10), kept(2, 6, 10, "x"), kept(3, 1, 11, "def"), gone(4, 1, 8))
	s.Record(4, 2, 12, "1234567")
	has(t, "P14.3: all go", s, 6, gone(1, 2, 10), gone(2, 6, 10), gone(3, 1, 11), gone(4, 2, 12))
}

// P14.3: a reply that isn't kept is passed over, however small its At is; nothing goes a second time.
func TestRecordPassesOver(t *testing.T) {
	s := made(t, 4, gone(1, 1, math.MinInt64), kept(2, 1, 5, "ab"), gone(3, 1, 4), kept(4, 1, 6, "cd"))
	s.Record(5, 1, 7, "e")
	has(t, "P14.3: those that went ahead", s, 4, gone(1, 1, math.MinInt64), gone(2, 1, 5), gone(3, 1, 4), kept(4, 1, 6, "cd"), kept(5, 1, 7, "e"))
}

// P14.3: a room of 0 keeps replies of no bytes alone, till one with bytes comes: then those of less At go, and it itself.
func TestRecordRoomOfNone(t *testing.T) {
	s := made(t, 0, kept(1, 1, 1, ""), kept(2, 1, 9, ""), kept(3, 1, 3, ""))
	has(t, "P14.3: room 0", s, 0, kept(1, 1, 1, ""), kept(2, 1, 9, ""), kept(3, 1, 3, ""))
	s.Record(4, 1, 3, "x")
	has(t, "P14.3: room 0, a byte", s, 0, gone(1, 1, 1), kept(2, 1, 9, ""), gone(3, 1, 3), gone(4, 1, 3))
	s.Record(4, 2, 10, "")
	has(t, "P14.3: room 0, no byte", s, 0, gone(1, 1, 1), kept(2, 1, 9, ""), gone(3, 1, 3), kept(4, 2, 10, ""))
	s.Record(1, 2, 8, "x")
	has(t, "P14.3: room 0, the least At", s, 0, gone(1, 2, 8), kept(2, 1, 9, ""), gone(3, 1, 3), kept(4, 2, 10, ""))
}

// P14.3: a reply of no bytes goes in its turn, too, and is itself no reason for one to go.
func TestRecordEmptyReplies(t *testing.T) {
	s := made(t, 4, kept(1, 1, 1, ""), kept(2, 1, 2, "abcd"), kept(3, 1, 3, ""))
	has(t, "P14.3: just full", s, 4, kept(1, 1, 1, ""), kept(2, 1, 2, "abcd"), kept(3, 1, 3, ""))
	s.Record(4, 1, 0, "")
	has(t, "P14.3: full, and no byte", s, 4, kept(1, 1, 1, ""), kept(2, 1, 2, "abcd"), kept(3, 1, 3, ""), kept(4, 1, 0, ""))
	s.Record(5, 1, 9, "x")
	has(t, "P14.3: empty ones go in their turn", s, 4, gone(1, 1, 1), gone(2, 1, 2), kept(3, 1, 3, ""), gone(4, 1, 0), kept(5, 1, 9, "x"))
}

// P14.3: all seats full of the longest replies that there is room for.
func TestRecordFull(t *testing.T) {
	s, want := made(t, api.MaxReply), []api.Seat{}
	for client := 1; client <= api.MaxClients; client++ {
		want = append(want, kept(client, 1, int64(client), text(1024)))
		s.Record(client, 1, int64(client), text(1024))
	}
	has(t, "P14.3: full", s, api.MaxReply, want...)
	s.Record(3, 2, 9, text(1025))
	want[0], want[2] = gone(1, 1, 1), kept(3, 2, 9, text(1025))
	has(t, "P14.3: one byte more", s, api.MaxReply, want...)
	s.Record(1, 2, 10, text(api.MaxReply))
	for i := range want {
		want[i] = gone(i+1, want[i].Number, want[i].At)
	}
	want[0] = kept(1, 2, 10, text(api.MaxReply))
	has(t, "P14.3: the longest of all", s, api.MaxReply, want...)
}
