package session_test

import (
	"math"
	"slices"
	"strings"
	"testing"

	"veneer/api"
	"veneer/session"
)

// P14.4, P14.5: bytes, one by one.
func TestBytesExamples(t *testing.T) {
	for _, r := range []struct {
		room  int
		want  string
		seats []api.Seat
	}{
		{0, "\x00\x00", nil},
		{5, "\x05\x00", nil},
		{127, "\x7f\x00", nil},
		{128, "\x80\x01\x00", nil},
		{8192, "\x80\x40\x00", nil},
		{5, "\x05\x01\x01\x01\x14\x01\x03abc", []api.Seat{kept(1, 1, 10, "abc")}},
		{5, "\x05\x01\x08\x02\x01\x01\x00", []api.Seat{kept(8, 2, -1, "")}},
		{5, "\x05\x01\x08\x02\x00\x00\x00", []api.Seat{gone(8, 2, 0)}},
		{5, "\x05\x01\x02\xac\x02\xab\x02\x01\x01z", []api.Seat{kept(2, 300, -150, "z")}},
		{5, "\x05\x01\x02\x80\x80\x80\x80\x80\x20\x02\x00\x00", []api.Seat{gone(2, api.Greatest, 1)}},
		{5, "\x05\x01\x02\x01\xff\xff\xff\xff\xff\xff\xff\xff\xff\x01\x00\x00", []api.Seat{gone(2, 1, math.MinInt64)}},
		{5, "\x05\x01\x02\x01\xfe\xff\xff\xff\xff\xff\xff\xff\xff\x01\x00\x00", []api.Seat{gone(2, 1, math.MaxInt64)}},
		{9, "\x09\x03\x01\x01\x14\x00\x00\x02\x07\x16\x01\x02de\x03\x01\x18\x01\x01f", []api.Seat{gone(1, 1, 10), kept(2, 7, 11, "de"), kept(3, 1, 12, "f")}},
	} {
		if got := string(made(t, r.room, r.seats...).Encode()); got != r.want {
			t.Errorf("P14.4: Encode: %x; want %x", got, r.want)
		}
		means(t, "an example", r.want, r.room, r.seats...)
	}
}

// P14.4, P14.5: each room, client, number, At and length of a reply at its bounds.
func TestBytesOfMany(t *testing.T) {
	for _, at := range ats() {
		for _, number := range []int64{1, 127, 128, 1<<35 - 1, api.Greatest - 1, api.Greatest} {
			for _, client := range []int{1, 2, 7, 8} {
				for _, seat := range []api.Seat{kept(client, number, at, "reply"), kept(client, number, at, ""), gone(client, number, at)} {
					has(t, "P14.4: bytes", made(t, 5, seat), 5, seat)
					means(t, "a seat", spell(5, seat), 5, seat)
				}
			}
		}
	}
	for _, size := range []int{0, 1, 127, 128, 8191, 8192} {
		seat := kept(3, 3, 3, text(size))
		has(t, "P14.4: bytes", made(t, size, seat), size, seat)
		means(t, "a room that is full", spell(uint64(size), seat), size, seat)
	}
	for _, room := range []int{150, 151, 8192} {
		for n := range len(several()) + 1 {
			means(t, "the first few", spell(uint64(room), several()[:n]...), room, several()[:n]...)
			means(t, "the last few", spell(uint64(room), several()[n:]...), room, several()[n:]...)
		}
	}
	all := slices.Insert(several(), 4, kept(5, 5, 5, "five"))
	means(t, "all seats", spell(154, all...), 154, all...)
}

// P14.5: a table that was decoded goes on as its like does: the same replies go, there is the same room.
func TestDecodeGoesOn(t *testing.T) {
	for _, room := range []uint64{150, 153, 8192} {
		one := made(t, int(room), several()...)
		two := means(t, "going on", spell(room, several()...), int(room), several()...)
		if two == nil {
			return
		}
		for i, seat := range []api.Seat{kept(5, 1, 5, "12345"), kept(1, 2, -100, "x"), kept(8, 128, 2, text(3)), kept(3, 8, 8, text(8000)), kept(7, 1, 1, "no"), kept(6, api.Greatest, 9, text(8192))} {
			e1 := one.Record(seat.Client, seat.Number, seat.At, seat.Reply)
			e2 := two.Record(seat.Client, seat.Number, seat.At, seat.Reply)
			if e1 != e2 {
				t.Errorf("P14.6: step %d: %d, %d", i, e1, e2)
			}
			has(t, "P14.6: going on", two, int(room), one.List()...)
		}
	}
}

// P14.5: bytes that are cut off anywhere, or have more behind them.
func TestDecodeOtherLengths(t *testing.T) {
	nothing(t, "no bytes", "")
	if s, e := session.Decode(nil); s != nil || e != api.ErrForm {
		t.Errorf("P14.5: Decode(nil): %d", e)
	}
	for _, seats := range [][]api.Seat{nil, {kept(1, 1, 1, "hi")}, {kept(8, 300, -300, "")}, {gone(2, 2, 2)}, several()} {
		b := spell(8192, seats...)
		for at := range b {
			nothing(t, "cut off", b[:at])
		}
		for _, more := range []string{"\x00", "\x01", "\x80", "\xff", "\x00\x00\x00", "\x08\x01\x00\x00\x00", b} {
			nothing(t, "with more behind", b+more)
		}
	}
}

// P14.5: how many seats there are must be what is told.
func TestDecodeCounts(t *testing.T) {
	body := strings.Join(fields(150, several()...)[2:], "")
	for _, count := range []uint64{0, 1, 6, 8, 9, 10, 255, 256 + 7, 1 << 20, 1 << 32, 1<<32 + 7, 1<<63 + 7, 1<<64 - 1} {
		nothing(t, "another count", num(150)+num(count)+body)
	}
	means(t, "its own count", num(150)+num(7)+body, 150, several()...)
	all := slices.Insert(several(), 4, kept(5, 5, 5, ""))
	for _, client := range []int{8, 9, 10} {
		nothing(t, "more than MaxClients", spell(150, append(slices.Clone(all), gone(client, 200, 1))...))
	}
}

// P14.5: seats out of order, or of one client twice.
func TestDecodeOrder(t *testing.T) {
	all := several()
	for i := range all {
		for k := range i {
			other := slices.Clone(all)
			other[i], other[k] = other[k], other[i]
			nothing(t, "two of them the other way round", spell(8192, other...))
		}
		for k := range len(all) + 1 {
			nothing(t, "a seat twice", spell(8192, slices.Insert(slices.Clone(all), k, all[i])...))
			for _, number := range []int64{1, all[i].Number + 1, api.Greatest} {
				for _, twin := range []api.Seat{kept(all[i].Client, number, 5, "x"), kept(all[i].Client, number, 5, ""), gone(all[i].Client, number, all[i].At)} {
					nothing(t, "a client twice", spell(8192, slices.Insert(slices.Clone(all), k, twin)...))
				}
			}
		}
	}
}

// P14.5: a room that Make doesn't take.
func TestDecodeRooms(t *testing.T) {
	for _, seats := range [][]api.Seat{nil, {gone(1, 1, 1)}, {kept(1, 1, 1, "")}, several()} {
		for _, room := range []uint64{8193, 8194, 16384, 1 << 31, 1 << 32, 1<<32 + 150, 1 << 62, 1 << 63, 1<<63 + 150, 1<<64 - 1} {
			nothing(t, "a room", spell(room, seats...))
		}
		means(t, "the greatest room", spell(8192, seats...), 8192, seats...)
	}
}

// P14.5: what is no client, or no request's number.
func TestDecodeNoClientNoNumber(t *testing.T) {
	for _, k := range []bool{false, true} {
		for _, client := range []uint64{0, 9, 10, 255, 256, 257, 1 << 32, 1<<32 + 1, 1<<62 + 2, 1 << 63, 1<<63 + 1, 1<<64 - 1, 1<<64 - 8} {
			seat := seatBytes(api.Seat{Client: 1, Number: 1, At: 1, Kept: k})
			seat[0] = num(client)
			nothing(t, "no client", num(5)+num(1)+strings.Join(seat, ""))
			nothing(t, "no client, behind others", num(5)+num(2)+strings.Join(seatBytes(gone(1, 1, 1)), "")+strings.Join(seat, ""))
			nothing(t, "no client, ahead of others", num(5)+num(2)+strings.Join(seat, "")+strings.Join(seatBytes(gone(8, 1, 1)), ""))
		}
		for _, number := range []uint64{0, api.Greatest + 1, api.Greatest + 2, 2 * api.Greatest, 1 << 62, 1<<63 - 1, 1 << 63, 1<<63 + 1, 1<<64 - 1, 1<<64 - api.Greatest} {
			for client := 1; client <= api.MaxClients; client++ {
				seat := seatBytes(api.Seat{Client: client, Number: 1, At: 1, Kept: k})
				seat[1] = num(number)
				nothing(t, "no number", num(5)+num(1)+strings.Join(seat, ""))
			}
		}
	}
}

// P14.5: flags, and a reply where none is kept.
func TestDecodeFlags(t *testing.T) {
	for v := range 256 {
		for _, seat := range []api.Seat{kept(1, 1, 1, ""), kept(1, 1, 1, "hi"), kept(1, 1, 1, "\x00")} {
			f := fields(5, seat)
			f[5] = string([]byte{byte(v)})
			b := strings.Join(f, "")
			seat.Kept = v == 1
			if v > 1 || !seat.Kept && seat.Reply != "" {
				nothing(t, "a flag", b)
			} else {
				means(t, "a flag", b, 5, seat)
			}
		}
	}
	for _, size := range []int{1, 2, 5, 6, 8192, 8193} {
		for _, room := range []uint64{0, 5, 8192} {
			nothing(t, "a reply that isn't kept", spell(room, api.Seat{Client: 4, Number: 1, Reply: text(size)}))
			nothing(t, "the same behind one that is", spell(room, kept(3, 1, 1, ""), api.Seat{Client: 4, Number: 1, Reply: text(size)}))
		}
	}
}

// P14.5: replies that are too long, alone or together.
func TestDecodeReplies(t *testing.T) {
	for _, size := range []int{8193, 8194, 16384, 70000} {
		nothing(t, "too long a reply", spell(8192, kept(1, 1, 1, text(size))))
		nothing(t, "too long a reply behind another", spell(8192, gone(1, 1, 1), kept(2, 1, 2, text(size))))
	}
	for _, length := range []uint64{2, 3, 8193, 1 << 32, 1<<32 + 1, 1 << 63, 1<<64 - 1} {
		f := fields(8192, kept(1, 1, 1, "x"))
		f[6] = num(length) + "x"
		nothing(t, "a length that isn't there", strings.Join(f, ""))
	}
	for _, room := range []int{0, 1, 5, 127, 128, 8191} {
		nothing(t, "more than there is room for", spell(uint64(room), kept(4, 4, 4, text(room+1))))
		for client := 1; client <= 7; client++ {
			for _, at := range []int64{3, 4, 5} {
				nothing(t, "the same by two", spell(uint64(room), kept(client, 1, at, text(room)), kept(8, 1, 4, "x")))
				nothing(t, "the same by two", spell(uint64(room), kept(client, 1, at, "x"), kept(8, 1, 4, text(room))))
				means(t, "just enough", spell(uint64(room+1), kept(client, 1, at, "x"), kept(8, 1, 4, text(room))), room+1, kept(client, 1, at, "x"), kept(8, 1, 4, text(room)))
			}
		}
	}
	var all []api.Seat
	for client := 1; client <= api.MaxClients; client++ {
		all = append(all, kept(client, 1, 1, text(8192)))
		if client > 1 {
			nothing(t, "as long as may be, each", spell(8192, all...))
		}
	}
	for room := range uint64(150) {
		nothing(t, "several in too small a room", spell(room, several()...))
	}
}

// P14.5: numbers that aren't in their shortest form, or have more than 64 bits, at each place where there is one.
func TestDecodeOtherNumbers(t *testing.T) {
	for _, seat := range []api.Seat{kept(1, 1, 1, "hi"), kept(1, 1, 0, ""), gone(8, 7, -1)} {
		right := fields(9, seat)
		for at := range right {
			if at != 5 { // the flag
				for _, tail := range []string{"\x00", "\x80\x00", "\x80\x80\x80\x80\x80\x80\x80\x80\x80\x00", "\x80\x80\x80\x80\x80\x80\x80\x80\x02", "\x80\x80\x80\x80\x80\x80\x80\x80\x80\x01"} {
					f := slices.Clone(right)
					f[at] = string([]byte{f[at][0] | 0x80}) + tail + f[at][1:]
					nothing(t, "a number in another form", strings.Join(f, ""))
				}
			}
			if at != 4 { // At, which may be any number
				for _, huge := range []string{"\xff\xff\xff\xff\xff\xff\xff\xff\xff\x01", "\xff\xff\xff\xff\xff\xff\xff\xff\x7f"} {
					f := slices.Clone(right)
					f[at] = huge
					nothing(t, "a huge number", strings.Join(f, ""))
				}
			}
		}
	}
}

// P14.5: of all short bytes out of a few those alone are taken that mean a table.
func TestDecodeAllShort(t *testing.T) {
	const most = 9
	letters := "\x00\x01\x02\x09"
	right := map[string]int{}
	add := func(room uint64, seats ...api.Seat) {
		if b := spell(room, seats...); len(b) <= most {
			right[b] = 0
		}
	}
	for _, room := range []uint64{0, 1, 2, 9} {
		add(room)
		for _, client := range []int{1, 2} {
			for _, number := range []int64{1, 2, 9} {
				for _, at := range []int64{0, -1, 1, -5} {
					add(room, gone(client, number, at))
					add(room, kept(client, number, at, ""))
					for _, one := range []string{"\x00", "\x01", "\x02", "\x09"} {
						if room >= 1 {
							add(room, kept(client, number, at, one))
						}
						for _, two := range []string{"\x00", "\x01", "\x02", "\x09"} {
							if room >= 2 {
								add(room, kept(client, number, at, one+two))
							}
						}
					}
				}
			}
		}
	}
	var try func(b []byte)
	try = func(b []byte) {
		_, ok := right[string(b)]
		if s, e := session.Decode(b); ok != (e == api.OK) || ok != (s != nil) || !ok && e != api.ErrForm {
			t.Fatalf("P14.5: Decode(%x): %d", b, e)
		} else if ok {
			right[string(b)]++
		}
		if len(b) == most {
			return
		}
		for i := range len(letters) {
			try(append(slices.Clone(b), letters[i]))
		}
	}
	try(nil)
	for b, met := range right {
		if met != 1 {
			t.Errorf("P14.5: %x was met %d times", b, met)
		}
	}
	// Each room alone, and for each client, number and At two without a reply's bytes, in three rooms four of one byte, in two sixteen of two.
	if want := 4 + 24*(4*2+3*4+2*16); len(right) != want {
		t.Errorf("P14.5: %d short bytes are right; want %d", len(right), want)
	}
}

// P14.5: of bytes of which one was changed: what Decode takes, Encode answers.
func TestDecodeChanged(t *testing.T) {
	taken := 0
	for _, seats := range [][]api.Seat{nil, {kept(1, 1, 1, "hi")}, {gone(2, 300, -300), kept(5, 1, 1, "")}, several()} {
		b := []byte(spell(155, seats...))
		for at := range b {
			for v := range 256 {
				other := slices.Clone(b)
				other[at] = byte(v)
				s, e := session.Decode(other)
				switch {
				case e == api.OK && string(s.Encode()) == string(other):
					taken++
				case e != api.ErrForm || s != nil:
					t.Errorf("P14.5: Decode(%x): %d", other, e)
				}
			}
		}
	}
	if taken < 1000 {
		t.Errorf("P14.5: only %d were taken", taken)
	}
}

// Rule 3: bytes that are handed in aren't changed, their spare room neither, and may be written over behind the call.
func TestBytesHandedIn(t *testing.T) {
	right := spell(200, several()...)
	whole := []byte(right + "spare room")
	s, e := session.Decode(whole[:len(right)])
	if e != api.OK {
		t.Fatalf("P14.5: %d", e)
	}
	other := s.Clone()
	other.Record(1, 2, 2, "new")
	other.Forget(4)
	if string(whole) != right+"spare room" {
		t.Errorf("rule 3: the bytes were changed")
	}
	clear(whole)
	has(t, "rule 3: bytes written over", s, 200, several()...)
}
