package session_test

import (
	"encoding/binary"
	"fmt"
	"math"
	"math/rand"
	"slices"
	"strings"
	"testing"

	"veneer/api"
	"veneer/session"
)

// text: so many bytes, no ten of them alike.
func text(count int) string { return strings.Repeat("0123456789", count/10+1)[:count] }

// show: the beginning of a value's text.
func show(v any) string { return fmt.Sprintf("%.200q", fmt.Sprintf("%+v", v)) }

// Seats: with a reply that is kept, and with one that isn't.
func kept(client int, number, at int64, reply string) api.Seat {
	return api.Seat{Client: client, Number: number, At: at, Kept: true, Reply: reply}
}
func gone(client int, number, at int64) api.Seat {
	return api.Seat{Client: client, Number: number, At: at}
}

// noClients: numbers that are no client's.
func noClients() []int {
	return []int{0, -1, -8, 9, 10, 255, 256, 257, 1 << 32, 1<<32 + 1, -1 << 32, 1<<62 + 2, math.MaxInt, math.MinInt, math.MinInt + 1}
}

// noNumbers: numbers that are no request's.
func noNumbers() []int64 {
	return []int64{0, -1, -2, -api.Greatest, api.Greatest + 1, api.Greatest + 2, 2 * api.Greatest, 1<<62 + 1, math.MaxInt64, math.MinInt64, math.MinInt64 + 1}
}

// ats: times of all sizes, rising.
func ats() []int64 {
	return []int64{math.MinInt64, math.MinInt64 + 1, -1 << 32, -64, -2, -1, 0, 1, 2, 63, 64, 1 << 32, api.Greatest + 1, math.MaxInt64 - 1, math.MaxInt64}
}

// made: a table with this room, in which these are recorded, one behind the other.
func made(t *testing.T, room int, seats ...api.Seat) *session.Table {
	t.Helper()
	s, e := session.Make(room)
	if e != api.OK || s == nil {
		t.Fatalf("P14.1: Make(%d): %d", room, e)
	}
	for _, x := range seats {
		if e := s.Record(x.Client, x.Number, x.At, x.Reply); e != api.OK {
			t.Fatalf("P14.3: Record(%s): %d", show(x), e)
		}
		if !x.Kept {
			s.Forget(x.Client)
		}
	}
	return s
}

// looks: Look must answer this.
func looks(t *testing.T, what string, s *session.Table, client int, number int64, want session.State, reply string) {
	t.Helper()
	if got, text := s.Look(client, number); got != want || text != reply {
		t.Errorf("%s: Look(%d, %d): %d, %.40q; want %d, %.40q", what, client, number, got, text, want, reply)
	}
}

// has: the table must have just these seats, whatever it is asked.
func has(t *testing.T, what string, s *session.Table, room int, want ...api.Seat) {
	t.Helper()
	if got := s.List(); !slices.Equal(got, want) {
		t.Errorf("%s: seats: %s; want %s", what, show(got), show(want))
		return
	}
	if got := string(s.Encode()); got != spell(uint64(room), want...) {
		t.Errorf("%s: bytes: %.80x; want %.80x", what, got, spell(uint64(room), want...))
	}
	free := map[int]int{1: 0, 2: 0, 3: 0, 4: 0, 5: 0, 6: 0, 7: 0, 8: 0}
	for _, x := range want {
		delete(free, x.Client)
		state := session.Forgot
		if x.Kept {
			state = session.Kept
		}
		looks(t, what, s, x.Client, x.Number, state, x.Reply)
		if x.Number > 1 {
			looks(t, what, s, x.Client, x.Number-1, session.Old, "")
			looks(t, what, s, x.Client, 1, session.Old, "")
		}
		if x.Number < api.Greatest {
			looks(t, what, s, x.Client, x.Number+1, session.New, "")
			looks(t, what, s, x.Client, api.Greatest, session.New, "")
		}
	}
	for client := range free {
		looks(t, what, s, client, 1, session.New, "")
		looks(t, what, s, client, api.Greatest, session.New, "")
	}
}

// refuses: Record must answer this error, and change nothing.
func refuses(t *testing.T, s *session.Table, room int, client int, number, at int64, reply string, want api.Errno) {
	t.Helper()
	before := s.List()
	if got := s.Record(client, number, at, reply); got != want {
		t.Errorf("P14.3: Record(%d, %d, %d, %d bytes): %d; want %d", client, number, at, len(reply), got, want)
	}
	has(t, "P14.3: behind an error", s, room, before...)
}

// num: a number's bytes, not by layer 2.
func num(n uint64) string { return string(binary.AppendUvarint(nil, n)) }

// signed: those of a number with a sign, not by layer 2.
func signed(n int64) string { return string(binary.AppendVarint(nil, n)) }

// flag: a flag's byte.
func flag(yes bool) string {
	if yes {
		return "\x01"
	}
	return "\x00"
}

// seatBytes: a seat's bytes, in five fields.
func seatBytes(x api.Seat) []string {
	return []string{num(uint64(x.Client)), num(uint64(x.Number)), signed(x.At), flag(x.Kept), num(uint64(len(x.Reply))) + x.Reply}
}

// fields: the bytes of a table field by field, be it one or not.
func fields(room uint64, seats ...api.Seat) []string {
	out := []string{num(room), num(uint64(len(seats)))}
	for _, x := range seats {
		out = append(out, seatBytes(x)...)
	}
	return out
}

// spell: the same in one.
func spell(room uint64, seats ...api.Seat) string { return strings.Join(fields(room, seats...), "") }

// means: Decode of these bytes must be a table with this room and just these seats.
func means(t *testing.T, what, b string, room int, want ...api.Seat) *session.Table {
	t.Helper()
	s, e := session.Decode([]byte(b))
	if e != api.OK || s == nil {
		t.Errorf("P14.5: %s: Decode(%.80x): %d", what, b, e)
		return nil
	}
	has(t, "P14.5: "+what, s, room, want...)
	if got := string(s.Encode()); got != b {
		t.Errorf("P14.5: %s: Encode of Decode(%.80x): %.80x", what, b, got)
	}
	return s
}

// nothing: Decode must answer ErrForm, and nil.
func nothing(t *testing.T, what, b string) {
	t.Helper()
	if s, e := session.Decode([]byte(b)); e != api.ErrForm || s != nil {
		t.Errorf("P14.5: %s: Decode(%.80x): %v, %d; want nil, ErrForm", what, b, s != nil, e)
	}
}

// several: seats of all shapes, in their order, whose kept replies have 150 bytes: of most clients, least and greatest numbers, empty replies, replies that aren't kept.
func several() []api.Seat {
	return []api.Seat{
		kept(1, 1, 0, "a\x00\xff"), kept(2, api.Greatest, -1, ""), gone(3, 7, math.MinInt64), kept(4, 128, math.MaxInt64, text(140)),
		gone(6, api.Greatest-1, 64), kept(7, 1<<32, -65, "1234567"), gone(8, 127, -64),
	}
}

// pick: one of a list.
func pick[T any](r *rand.Rand, all ...T) T { return all[r.Intn(len(all))] }
