package wire_test

import (
	"bytes"
	"encoding/binary"
	"hash/crc32"
	"testing"

	"veneer/api"
	"veneer/wire"
)

// pattern: n bytes in which neighbours differ, so that none can stand for another.
func pattern(n int) []byte {
	b := make([]byte, n)
	for i := range b {
		b[i] = byte(7*i + i>>8 + n)
	}
	return b
}

// framed: a frame that doesn't hang on the package's own Frame.
func framed(payload []byte) []byte {
	b := binary.LittleEndian.AppendUint32(nil, uint32(len(payload)))
	b = append(b, payload...)
	return binary.LittleEndian.AppendUint32(b, crc32.ChecksumIEEE(b))
}

func checkNext(t *testing.T, what string, b, payload []byte, n int, want api.Errno) {
	t.Helper()
	gotPayload, gotN, e := wire.Next(b)
	if !bytes.Equal(gotPayload, payload) || gotN != n || e != want {
		t.Errorf("Next of %s: %d bytes, %d, error %d; want %d bytes, %d, error %d", what, len(gotPayload), gotN, e, len(payload), n, want)
	}
}

func checkScan(t *testing.T, what string, b []byte, payloads [][]byte, n int) {
	t.Helper()
	got, gotN := wire.Scan(b)
	if len(got) != len(payloads) || gotN != n {
		t.Errorf("Scan of %s: %d frames of %d bytes, want %d of %d", what, len(got), gotN, len(payloads), n)
		return
	}
	for k, p := range payloads {
		if !bytes.Equal(got[k], p) {
			t.Errorf("Scan of %s: payload %d: % x, want % x", what, k, got[k], p)
		}
	}
}

func TestCheckOfKnownBytes(t *testing.T) { // P2.4
	for _, r := range []struct {
		text string
		want uint32
	}{
		{"", 0},
		{"a", 0xe8b7be43},
		{"123456789", 0xcbf43926},
		{"The quick brown fox jumps over the lazy dog", 0x414fa339},
		{"\x00\x00\x00\x00", 0x2144df1c},
		{"\xff\xff\xff\xff", 0xffffffff},
	} {
		if got := wire.Check([]byte(r.text)); got != r.want {
			t.Errorf("Check(%q): %08x, want %08x", r.text, got, r.want)
		}
	}
	if wire.Check() != 0 || wire.Check(nil) != 0 || wire.Check(nil, []byte{}, nil) != 0 {
		t.Error("Check of no bytes isn't 0")
	}
}

func TestCheckOfEachByteAndLength(t *testing.T) { // P2.4
	for v := range 256 {
		if b := []byte{byte(v)}; wire.Check(b) != crc32.ChecksumIEEE(b) {
			t.Errorf("Check of the byte %d: %08x", v, wire.Check(b))
		}
	}
	for n := range 300 {
		if b := pattern(n); wire.Check(b) != crc32.ChecksumIEEE(b) {
			t.Errorf("Check of %d bytes: %08x", n, wire.Check(b))
		}
	}
}

func TestCheckOfParts(t *testing.T) { // P2.4
	whole := pattern(60)
	want := crc32.ChecksumIEEE(whole)
	for i := range len(whole) + 1 {
		for k := i; k <= len(whole); k++ {
			if got := wire.Check(whole[:i], whole[i:k], nil, whole[k:]); got != want {
				t.Errorf("parts cut at %d and %d: %08x, want %08x", i, k, got, want)
			}
		}
	}
	for n := 1; n <= len(whole); n++ {
		var parts [][]byte
		for at := 0; at < len(whole); at += n {
			parts = append(parts, whole[at:min(at+n, len(whole))])
		}
		if got := wire.Check(parts...); got != want {
			t.Errorf("parts of %d bytes: %08x, want %08x", n, got, want)
		}
	}
	if wire.Check([]byte("ab"), []byte("c")) == wire.Check([]byte("c"), []byte("ab")) {
		t.Error("the order of the parts says nothing")
	}
}

func TestFrameOfKnownBytes(t *testing.T) { // P2.4
	for _, r := range []struct {
		payload, want []byte
	}{
		{nil, []byte{0, 0, 0, 0, 0x1c, 0xdf, 0x44, 0x21}},
		{[]byte{}, []byte{0, 0, 0, 0, 0x1c, 0xdf, 0x44, 0x21}},
		{[]byte("a"), []byte{1, 0, 0, 0, 'a', 0x63, 0x8f, 0xf7, 0xc1}},
	} {
		got, e := wire.Frame(r.payload)
		if e != api.OK || !bytes.Equal(got, r.want) {
			t.Errorf("Frame(%q): % x, error %d; want % x", r.payload, got, e, r.want)
		}
	}
}

func TestFramesOfManyLengths(t *testing.T) { // P2.4, P2.5
	for _, n := range []int{0, 1, 2, 255, 256, 257, 65535, 65536, 65537, api.MaxFrame - 1, api.MaxFrame} {
		payload := pattern(n)
		f, e := wire.Frame(payload)
		if e != api.OK || !bytes.Equal(f, framed(payload)) {
			t.Errorf("a frame of %d bytes is another one, or error %d", n, e)
		}
		checkNext(t, "a frame", framed(payload), payload, n+8, api.OK)
	}
	for _, n := range []int{api.MaxFrame + 1, 2 * api.MaxFrame} {
		if f, e := wire.Frame(make([]byte, n)); e != api.ErrLong || len(f) != 0 {
			t.Errorf("Frame of %d bytes: %d bytes, error %d", n, len(f), e)
		}
	}
}

func TestNextOfFewerThanFourBytes(t *testing.T) { // P2.5
	for _, b := range [][]byte{nil, {}, {0}, {0, 0, 0}, {255, 255, 255}, {1, 0, 4}} {
		checkNext(t, "too few bytes", b, nil, 0, api.ErrShort)
	}
}

func TestNextOfALengthAboveTheLimit(t *testing.T) { // P2.5
	over := framed(pattern(api.MaxFrame + 1))
	for _, b := range [][]byte{
		{1, 0, 4, 0},
		{1, 0, 4, 0, 9, 9, 9, 9, 9},
		{0, 0, 0, 1},
		{0, 0, 0, 128},
		{255, 255, 255, 255},
		{255, 255, 255, 255, 0, 0, 0, 0},
		over,
	} {
		checkNext(t, "a length above the limit", b, nil, 0, api.ErrLong)
	}
	checkNext(t, "the greatest length", []byte{0, 0, 4, 0}, nil, 0, api.ErrShort)
}

func TestNextOfAFrameThatIsCutOff(t *testing.T) { // P2.5
	for _, n := range []int{0, 1, 2, 40, 300} {
		payload := pattern(n)
		f := framed(payload)
		for at := range f {
			checkNext(t, "a frame that is cut off", f[:at], nil, 0, api.ErrShort)
			// The memory goes on: what is behind the cut mustn't be read.
			checkNext(t, "a frame without room", f[:at:at], nil, 0, api.ErrShort)
		}
		checkNext(t, "the whole frame", f, payload, len(f), api.OK)
	}
	f := framed(pattern(api.MaxFrame))
	checkNext(t, "a great frame that is cut off", f[:len(f)-1], nil, 0, api.ErrShort)
}

func TestNextOfAFrameWithAByteChanged(t *testing.T) { // P2.5
	payload := pattern(40)
	f := framed(payload)
	for at := range f {
		for bit := range 8 {
			bad := bytes.Clone(f)
			bad[at] ^= 1 << bit
			_, _, e := wire.Next(bad)
			want := api.ErrSum
			switch n := binary.LittleEndian.Uint32(bad); {
			case n > api.MaxFrame:
				want = api.ErrLong
			case int(n)+8 > len(bad):
				want = api.ErrShort
			}
			if e != want {
				t.Errorf("byte %d, bit %d changed: error %d, want %d", at, bit, e, want)
			}
			checkNext(t, "a frame with a byte changed", bad, nil, 0, want)
			checkScan(t, "a frame with a byte changed", bad, nil, 0)
		}
	}
}

func TestNextWithBytesBehind(t *testing.T) { // P2.5
	for _, n := range []int{0, 1, 40} {
		payload := pattern(n)
		f := framed(payload)
		for _, behind := range [][]byte{{0}, {7}, {255, 255, 255, 255}, framed([]byte("next")), make([]byte, 50)} {
			checkNext(t, "a frame with bytes behind", append(bytes.Clone(f), behind...), payload, len(f), api.OK)
		}
	}
}

// some: payloads of several lengths, and their frames, one behind the other.
func some() (payloads [][]byte, ends []int, all []byte) {
	for _, n := range []int{3, 0, 1, 17, 0, 0, 9} {
		payloads = append(payloads, pattern(n))
		all = append(all, framed(pattern(n))...)
		ends = append(ends, len(all))
	}
	return payloads, ends, all
}

func TestScan(t *testing.T) { // P2.5
	payloads, ends, all := some()
	checkScan(t, "several frames", all, payloads, len(all))
	checkScan(t, "nil", nil, nil, 0)
	checkScan(t, "no bytes", []byte{}, nil, 0)
	checkScan(t, "no frame", []byte{1, 2, 3, 4, 5, 6, 7, 8, 9}, nil, 0)
	checkScan(t, "too long a frame", append(bytes.Clone(all), 1, 0, 4, 0), payloads, len(all))
	checkScan(t, "a torn frame behind", append(bytes.Clone(all), framed([]byte("ab"))[:7]...), payloads, len(all))
	for k, end := range ends {
		bad := bytes.Clone(all)
		bad[end-1]++
		checkScan(t, "a broken frame between", bad, payloads[:k], end-8-len(payloads[k]))
	}
}

func TestScanOfFramesThatAreCut(t *testing.T) { // P2.6
	payloads, ends, _ := some()
	var all []byte
	for _, p := range payloads {
		f, e := wire.Frame(p)
		if e != api.OK {
			t.Fatalf("Frame: error %d", e)
		}
		all = append(all, f...)
	}
	whole, passed := 0, 0
	for at := range len(all) + 1 {
		for whole < len(ends) && ends[whole] <= at {
			passed = ends[whole]
			whole++
		}
		checkScan(t, "frames that are cut", all[:at], payloads[:whole], passed)
	}
}

func TestScanOfManyFrames(t *testing.T) { // P2.5
	var all []byte
	var payloads [][]byte
	for n := range 2000 {
		p := []byte{byte(n), byte(n >> 8)}
		payloads = append(payloads, p)
		all = append(all, framed(p)...)
	}
	checkScan(t, "many frames", all, payloads, len(all))
}

func TestFramesChangeNothingHandedIn(t *testing.T) { // rule 3
	payload := []byte("payload")
	whole := append(append([]byte{9, 9}, framed(payload)...), 9, 9, 9, 9, 9, 9, 9, 9, 9)
	before := bytes.Clone(whole)
	f := whole[2 : 2+len(payload)+8]
	parts := [][]byte{f, f[1:3]}
	wire.Check(parts...)
	if len(parts) != 2 || &parts[0][0] != &f[0] || &parts[1][0] != &f[1] || len(parts[0]) != len(f) || len(parts[1]) != 2 {
		t.Error("the list of parts was changed")
	}
	wire.Frame(f[4 : 4+len(payload)])
	wire.Next(f)
	wire.Scan(f)
	checkBytes(t, "what was handed in, and the room round it", whole, before)
}

func TestFramesKeepNothingHandedIn(t *testing.T) { // rule 3
	payload := []byte("payload")
	want := framed(payload)
	f, _ := wire.Frame(payload)
	clear(payload)
	checkBytes(t, "the frame", f, want)

	two := append(bytes.Clone(want), want...)
	p, _, _ := wire.Next(two)
	l, _ := wire.Scan(two)
	clear(two)
	if len(l) != 2 {
		t.Fatalf("Scan: %d frames", len(l))
	}
	for _, got := range [][]byte{p, l[0], l[1]} {
		checkBytes(t, "the payload", got, []byte("payload"))
	}
}

func TestPayloadsShareNoMemory(t *testing.T) { // rule 3
	f := framed([]byte("abc"))
	two := append(bytes.Clone(f), f...)
	l, _ := wire.Scan(two)
	if len(l) != 2 {
		t.Fatalf("Scan: %d frames", len(l))
	}
	clear(l[0])
	_ = append(l[0], "xxxxxxxxxxxxxxxxxxxx"...)
	checkBytes(t, "the second payload", l[1], []byte("abc"))
	checkBytes(t, "what was handed in", two, append(bytes.Clone(f), f...))
	checkScan(t, "the same again", two, [][]byte{[]byte("abc"), []byte("abc")}, len(two))
}
