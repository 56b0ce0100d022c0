package session_test

import (
	"cmp"
	"maps"
	"math"
	"math/rand"
	"slices"
	"testing"

	"veneer/api"
	"veneer/session"
)

// hall is a second table, made of the chapter's words alone: seats in a map, and replies that go found by sorting.
type hall struct {
	room  int
	seats map[int]api.Seat
}

func (h *hall) list() []api.Seat {
	return slices.SortedFunc(maps.Values(h.seats), func(a, b api.Seat) int { return cmp.Compare(a.Client, b.Client) })
}

// look: the state that the chapter names.
func (h *hall) look(client int, number int64) (session.State, string) {
	seat, there := h.seats[client]
	switch {
	case client < 1 || client > 8 || number < 1 || number > 1<<40:
		return session.Bad, ""
	case !there || seat.Number < number:
		return session.New, ""
	case seat.Number > number:
		return session.Old, ""
	case seat.Kept:
		return session.Kept, seat.Reply
	}
	return session.Forgot, ""
}

// record: the error that the chapter names, or the seat, and as many replies as there is room for, the latest ones.
func (h *hall) record(client int, number, at int64, reply string) api.Errno {
	state, _ := h.look(client, number)
	switch {
	case state == session.Bad:
		return api.ErrArg
	case state != session.New:
		return api.ErrState
	case len(reply) > 8192:
		return api.ErrLong
	}
	h.seats[client] = kept(client, number, at, reply)
	held := slices.DeleteFunc(h.list(), func(x api.Seat) bool { return !x.Kept })
	slices.SortStableFunc(held, func(a, b api.Seat) int { return cmp.Compare(a.At, b.At) })
	for size(held) > h.room {
		h.seats[held[0].Client] = gone(held[0].Client, held[0].Number, held[0].At)
		held = held[1:]
	}
	return api.OK
}

// forget: a client's reply goes.
func (h *hall) forget(client int) bool {
	seat, there := h.seats[client]
	if there {
		h.seats[client] = gone(client, seat.Number, seat.At)
	}
	return seat.Kept
}

// size: how many bytes replies have together.
func size(seats []api.Seat) int {
	sum := 0
	for _, x := range seats {
		sum += len(x.Reply)
	}
	return sum
}

// drawnClient: mostly a client.
func drawnClient(r *rand.Rand) int {
	if r.Intn(20) == 0 {
		return pick(r, noClients()...)
	}
	return 1 + r.Intn(8)
}

// drawnNumber: mostly one near the client's latest.
func drawnNumber(r *rand.Rand, latest int64) int64 {
	switch r.Intn(40) {
	case 0:
		return pick(r, noNumbers()...)
	case 1:
		return 1
	case 2:
		return min(latest+r.Int63n(1<<36), api.Greatest)
	}
	return latest + pick[int64](r, -1, 0, 1, 1, 1, 2, 3)
}

// drawnAt: few, so that many are alike; seldom one of all sizes.
func drawnAt(r *rand.Rand) int64 {
	if r.Intn(10) == 0 {
		return pick(r, ats()...)
	}
	return int64(r.Intn(9) - 4)
}

// drawnReply: one of few bytes for the room; seldom a long one.
func drawnReply(r *rand.Rand, room int) string {
	if r.Intn(20) == 0 {
		return text(pick(r, 8191, 8192, 8193, 9000))
	}
	return text(min(pick(r, 0, 0, 1, r.Intn(room/3+1), r.Intn(room+2), room, room+1), 8192))
}

// P14.2 to P14.6: drawn scripts, held against the second table step by step; now and then the script goes on with what Decode makes of Encode, or with a clone. Of each client the Number only rises.
func TestDrawnScripts(t *testing.T) {
	r := rand.New(rand.NewSource(141))
	met, states, went := map[api.Errno]int{}, map[session.State]int{}, 0
	for range 400 {
		room := pick(r, 0, 1, r.Intn(10), r.Intn(100), r.Intn(8193), 8192)
		s, h := made(t, room), &hall{room: room, seats: map[int]api.Seat{}}
		for range 150 {
			before := h.list()
			client := drawnClient(r)
			number := drawnNumber(r, h.seats[client].Number)
			switch r.Intn(12) {
			case 0:
				if got, want := s.Forget(client), h.forget(client); got != want {
					t.Errorf("P14.4: Forget(%d): %v", client, got)
				}
			case 1, 2:
				state, reply := h.look(client, number)
				states[state]++
				looks(t, "P14.2: drawn", s, client, number, state, reply)
			case 3:
				s = means(t, "P14.6", string(s.Encode()), room, before...)
			case 4:
				old := s
				s = s.Clone()
				old.Record(1, api.Greatest, math.MaxInt64, text(8192))
				old.Forget(2)
			default:
				at, reply := drawnAt(r), drawnReply(r, room)
				want := h.record(client, number, at, reply)
				met[want]++
				if got := s.Record(client, number, at, reply); got != want {
					t.Errorf("P14.3: Record(%d, %d, %d, %d bytes): %d; want %d", client, number, at, len(reply), got, want)
				}
				if state, _ := s.Look(client, number); state == session.Forgot && want == api.OK {
					went++
				}
			}
			if t.Failed() {
				return
			}
			has(t, "P14.6: a drawn script", s, room, h.list()...)
			rising(t, before, s.List())
		}
	}
	for _, e := range []api.Errno{api.OK, api.ErrArg, api.ErrState, api.ErrLong} {
		if met[e] < 500 {
			t.Errorf("P14.3: only %d drawn requests have the error %d", met[e], e)
		}
	}
	for state := session.Bad; state <= session.Old; state++ {
		if states[state] < 300 {
			t.Errorf("P14.2: the state %d was drawn only %d times", state, states[state])
		}
	}
	if went < 500 {
		t.Errorf("P14.3: of those that came only %d went themselves", went)
	}
}

// rising: each seat that was there is still there, with a Number that isn't less; with the same one, only its reply may have gone.
func rising(t *testing.T, before, behind []api.Seat) {
	t.Helper()
	for _, old := range before {
		i := slices.IndexFunc(behind, func(x api.Seat) bool { return x.Client == old.Client })
		if i < 0 || behind[i].Number < old.Number {
			t.Errorf("P14.6: the seat %s went, or fell", show(old))
			continue
		}
		if now := behind[i]; now.Number == old.Number && now != old && now != gone(old.Client, old.Number, old.At) {
			t.Errorf("P14.6: the seat %s became %s", show(old), show(now))
		}
	}
}

// P14.6: Decode(Encode) is the same table in all its answers behind it: both go on by one script.
func TestDrawnTwins(t *testing.T) {
	r := rand.New(rand.NewSource(142))
	for range 200 {
		room := pick(r, 0, r.Intn(20), r.Intn(8193))
		one := made(t, room)
		for range r.Intn(30) {
			client := drawnClient(r)
			one.Record(client, 1+r.Int63n(50), drawnAt(r), drawnReply(r, room))
			if r.Intn(6) == 0 {
				one.Forget(drawnClient(r))
			}
		}
		two := means(t, "a twin", string(one.Encode()), room, one.List()...)
		for range 60 {
			client, number, at, reply := drawnClient(r), 1+r.Int63n(90), drawnAt(r), drawnReply(r, room)
			if e1, e2 := one.Record(client, number, at, reply), two.Record(client, number, at, reply); e1 != e2 {
				t.Errorf("P14.6: Record: %d and %d", e1, e2)
			}
			if other := drawnClient(r); r.Intn(6) == 0 && one.Forget(other) != two.Forget(other) {
				t.Errorf("P14.6: Forget(%d) of twins", other)
			}
			if t.Failed() {
				return
			}
			has(t, "P14.6: twins", two, room, one.List()...)
		}
	}
}

// Rule 5: what is answered hangs on what was given, not on the order in which clients came, where their Ats are the same and there is room.
func TestAlike(t *testing.T) {
	r := rand.New(rand.NewSource(143))
	for range 100 {
		seats := several()
		r.Shuffle(len(seats), func(i, k int) { seats[i], seats[k] = seats[k], seats[i] })
		has(t, "rule 5", made(t, 150, seats...), 150, several()...)
	}
}
