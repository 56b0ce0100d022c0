package session_test

import (
	"math"
	"testing"

	"veneer/api"
	"veneer/session"
)

// P14.1: Make at, below and above its bounds.
func TestMake(t *testing.T) {
	for _, room := range []int{0, 1, 2, 127, 128, 8190, 8191, api.MaxReply} {
		has(t, "P14.1: a new table", made(t, room), room)
	}
	for _, room := range []int{-1, -2, -8192, api.MaxReply + 1, api.MaxReply + 2, 1 << 32, 1<<32 + 5, -1 << 32, math.MaxInt, math.MinInt, math.MinInt + 5} {
		if s, e := session.Make(room); s != nil || e != api.ErrArg {
			t.Errorf("P14.1: Make(%d): %v, %d; want nil, ErrArg", room, s != nil, e)
		}
	}
}

// P14.1: two tables have nothing in common.
func TestMakeApart(t *testing.T) {
	one, two := made(t, 5), made(t, 5)
	one.Record(1, 1, 1, "x")
	has(t, "P14.1: the other table", two, 5)
	has(t, "P14.1: the table", one, 5, kept(1, 1, 1, "x"))
}

// P14.1: each call of a nil table.
func TestNilTable(t *testing.T) {
	var s *session.Table
	for _, client := range append(noClients(), 1, 2, 8) {
		for _, number := range append(noNumbers(), 1, 2, api.Greatest) {
			looks(t, "P14.1: nil", s, client, number, session.Bad, "")
			for _, reply := range []string{"", "x", text(api.MaxReply + 1)} {
				if e := s.Record(client, number, 1, reply); e != api.ErrNil {
					t.Errorf("P14.1: Record of nil: %d", e)
				}
			}
		}
		if s.Forget(client) {
			t.Errorf("P14.1: Forget(%d) of nil", client)
		}
	}
	if len(s.List()) != 0 || len(s.Encode()) != 0 || s.Clone() != nil {
		t.Errorf("P14.1: List, Encode or Clone of nil")
	}
}

// P14.2: the numbers of the states.
func TestStates(t *testing.T) {
	got := [...]session.State{session.Bad, session.New, session.Kept, session.Forgot, session.Old}
	if got != [...]session.State{0, 1, 2, 3, 4} {
		t.Errorf("P14.2: states: %v", got)
	}
}

// P14.2: what is no client, or no request's number, whatever the table has.
func TestLookBad(t *testing.T) {
	for _, s := range []*session.Table{made(t, 0), made(t, 200, several()...), made(t, 8192, kept(1, 1, 1, "x"), kept(8, 1, 1, "y"))} {
		for _, client := range noClients() {
			for _, number := range append(noNumbers(), 1, 2, api.Greatest) {
				looks(t, "P14.2: no client", s, client, number, session.Bad, "")
			}
		}
		for client := 1; client <= api.MaxClients; client++ {
			for _, number := range noNumbers() {
				looks(t, "P14.2: no number", s, client, number, session.Bad, "")
			}
		}
	}
}

// P14.2: a client without a seat, whatever others have.
func TestLookNoSeat(t *testing.T) {
	for client := 1; client <= api.MaxClients; client++ {
		s := made(t, 99)
		for other := 1; other <= api.MaxClients; other++ {
			if other != client {
				s.Record(other, 5, 1, "x")
			}
		}
		for _, number := range []int64{1, 2, 4, 5, 6, api.Greatest - 1, api.Greatest} {
			looks(t, "P14.2: no seat", s, client, number, session.New, "")
		}
	}
}

// P14.2: numbers round a seat's, with a reply that is kept (an empty one, too), and with one that isn't.
func TestLookSeat(t *testing.T) {
	numbers := []int64{1, 2, 3, 4, 5, 6, 127, 128, 1<<31 - 1, 1 << 31, 1 << 32, 1<<32 + 1, api.Greatest - 1, api.Greatest}
	for client := 1; client <= api.MaxClients; client++ {
		for _, has := range numbers {
			for _, seat := range []api.Seat{kept(client, has, 0, "reply"), kept(client, has, -9, ""), gone(client, has, 9)} {
				s := made(t, 99, seat)
				for _, number := range numbers {
					switch {
					case number > has:
						looks(t, "P14.2: above", s, client, number, session.New, "")
					case number < has:
						looks(t, "P14.2: below", s, client, number, session.Old, "")
					case seat.Kept:
						looks(t, "P14.2: kept", s, client, number, session.Kept, seat.Reply)
					default:
						looks(t, "P14.2: not kept", s, client, number, session.Forgot, "")
					}
				}
			}
		}
	}
}

// P14.2: to look changes nothing.
func TestLookChangesNothing(t *testing.T) {
	s := made(t, 200, several()...)
	for _, client := range append(noClients(), 1, 2, 3, 4, 5, 6, 7, 8) {
		for _, number := range append(noNumbers(), 1, 7, 128, api.Greatest) {
			s.Look(client, number)
		}
	}
	has(t, "P14.2: behind many looks", s, 200, several()...)
}
