package session_test

import (
	"slices"
	"testing"

	"veneer/api"
	"veneer/session"
)

// P14.4: Forget of each client: without a seat, with a reply that is kept (an empty one, too), with one that isn't; a second time.
func TestForget(t *testing.T) {
	for client := 1; client <= api.MaxClients; client++ {
		s, want, was := made(t, 200, several()...), several(), false
		for i, seat := range want {
			if seat.Client == client {
				was = seat.Kept
				want[i] = gone(client, seat.Number, seat.At)
			}
		}
		if got := s.Forget(client); got != was {
			t.Errorf("P14.4: Forget(%d): %v", client, got)
		}
		has(t, "P14.4: forgotten", s, 200, want...)
		if s.Forget(client) {
			t.Errorf("P14.4: Forget(%d) a second time", client)
		}
		has(t, "P14.4: forgotten twice", s, 200, want...)
	}
	if made(t, 9).Forget(1) {
		t.Errorf("P14.4: Forget of a table without seats")
	}
}

// P14.4: Forget of what is no client.
func TestForgetNoClient(t *testing.T) {
	s := made(t, 200, several()...)
	for _, client := range noClients() {
		if s.Forget(client) {
			t.Errorf("P14.4: Forget(%d)", client)
		}
		has(t, "P14.4: no client", s, 200, several()...)
	}
}

// P14.4: behind a Forget there is room again, and the client goes on.
func TestForgetMakesRoom(t *testing.T) {
	s := made(t, 4, kept(1, 1, 1, "ab"), kept(2, 1, 2, "cd"))
	if !s.Forget(2) {
		t.Errorf("P14.4: Forget(2)")
	}
	s.Record(3, 1, 3, "ef")
	has(t, "P14.4: room", s, 4, kept(1, 1, 1, "ab"), gone(2, 1, 2), kept(3, 1, 3, "ef"))
	refuses(t, s, 4, 2, 1, 4, "x", api.ErrState)
	s.Forget(3)
	s.Record(2, 2, 4, "x")
	has(t, "P14.4: it goes on", s, 4, kept(1, 1, 1, "ab"), kept(2, 2, 4, "x"), gone(3, 1, 3))
}

// P14.4: List is by rising clients, whatever order they came in.
func TestListOrder(t *testing.T) {
	for shift := range 7 {
		for _, down := range []bool{false, true} {
			seats := several()
			seats = append(seats[shift:], seats[:shift]...)
			if down {
				slices.Reverse(seats)
			}
			has(t, "P14.4: order", made(t, 150, seats...), 150, several()...)
		}
	}
	if got := made(t, 5).List(); len(got) != 0 {
		t.Errorf("P14.4: List without seats: %s", show(got))
	}
}

// P14.4: a clone is the same in all, and goes on apart, either way.
func TestClone(t *testing.T) {
	for _, turn := range []bool{false, true} {
		stays := made(t, 152, several()...)
		goes := stays.Clone()
		has(t, "P14.4: a clone", goes, 152, several()...)
		if turn {
			stays, goes = goes, stays
		}
		want := several()
		goes.Forget(1)
		want[0] = gone(1, 1, 0)
		goes.Record(3, 8, 101, "12345")
		want[2] = kept(3, 8, 101, "12345")
		has(t, "P14.4: the one that goes on", goes, 152, want...)
		has(t, "P14.4: the one that stays", stays, 152, several()...)
		goes.Record(5, 1, 100, text(api.MaxReply))
		goes.Forget(4)
		has(t, "P14.4: the one that stays", stays, 152, several()...)
		stays.Record(5, 9, 1, "x")
		looks(t, "P14.4: the one that went on", goes, 5, 1, session.Forgot, "")
		looks(t, "P14.4: the one that stayed", stays, 5, 9, session.Kept, "x")
	}
	has(t, "P14.4: a clone without seats", made(t, 7).Clone(), 7)
}

// P14.4: a clone has the room of the table, too.
func TestCloneRoom(t *testing.T) {
	for _, room := range []int{0, 1, 5, api.MaxReply} {
		s := made(t, room).Clone()
		s.Record(1, 1, 1, text(room))
		has(t, "P14.4: a clone's room", s, room, kept(1, 1, 1, text(room)))
		s.Record(2, 1, 2, "x")
		looks(t, "P14.4: a clone's room", s, 1, 1, session.Forgot, "")
	}
}

// Rule 3: what List answers is new memory: written over, it changes neither the table nor another answer.
func TestListApart(t *testing.T) {
	s := made(t, 200, several()...)
	one, two := s.List(), s.List()
	clear(one)
	one = append(one[:0], gone(1, 9, 9), gone(2, 9, 9))
	if !slices.Equal(two, several()) || len(one) != 2 {
		t.Errorf("rule 3: two lists share memory")
	}
	has(t, "rule 3: a list written over", s, 200, several()...)
	three := s.List()
	s.Record(1, 2, 1000, "behind")
	s.Forget(4)
	if !slices.Equal(three, several()) {
		t.Errorf("rule 3: a list goes with the table")
	}
}

// Rule 3: so are the bytes that Encode answers.
func TestEncodeApart(t *testing.T) {
	s := made(t, 200, several()...)
	want := spell(200, several()...)
	one, two := s.Encode(), s.Encode()
	clear(one[:cap(one)])
	if string(two) != want {
		t.Errorf("rule 3: two answers of Encode share memory")
	}
	has(t, "rule 3: bytes written over", s, 200, several()...)
	s.Forget(4)
	if string(two) != want {
		t.Errorf("rule 3: bytes go with the table")
	}
}
