package sha_test

import (
	"bytes"
	"crypto/sha256"
	"encoding/hex"
	"strings"
	"testing"

	"veneer/api"
	"veneer/sha"
)

// empty is the digest of no bytes, as digits.
const empty = "e3b0c44298fc1c149afbf4c8996fb92427ae41e4649b934ca495991b7852b855"

// pattern: n bytes in which neighbours differ, so that none can stand for another.
func pattern(n int) []byte {
	b := make([]byte, n)
	for i := range b {
		b[i] = byte(7*i + n)
	}
	return b
}

// asDigits: digits that don't hang on the package's own Hex.
func asDigits(d api.Digest) string { return hex.EncodeToString(d[:]) }

func checkDigest(t *testing.T, what string, got api.Digest, want string) {
	t.Helper()
	if asDigits(got) != want {
		t.Errorf("%s: %s, want %s", what, asDigits(got), want)
	}
}

func TestSumOfKnownTexts(t *testing.T) { // P1.1
	for _, r := range []struct{ text, want string }{
		{"", empty},
		{"abc", "ba7816bf8f01cfea414140de5dae2223b00361a396177a9cb410ff61f20015ad"},
		{"The quick brown fox jumps over the lazy dog", "d7a8fbb307d7809469ca9abcb0082e4f8d5651e46d3cdb762d02d0bf37c9e592"},
		{"abcdbcdecdefdefgefghfghighijhijkijkljklmklmnlmnomnopnopq", "248d6a61d20638b8e5c026930c3e6039a33ce45964ff2167f6ecedd419db06c1"},
		{"abcdefghbcdefghicdefghijdefghijkefghijklfghijklmghijklmnhijklmnoijklmnopjklmnopqklmnopqrlmnopqrsmnopqrstnopqrstu", "cf5b16a778af8380036ce59e7b0492370b249b11e8f07a51afac45037afee9d1"},
		{strings.Repeat("a", 1000000), "cdc76e5c9914fb9281a1c7e284d73e67f1809a48a497200e046d39ccc7112cd0"},
	} {
		checkDigest(t, "Sum of "+r.text[:min(20, len(r.text))], sha.Sum([]byte(r.text)), r.want)
	}
	checkDigest(t, "Sum of nil", sha.Sum(nil), empty)
}

func TestSumRoundEdgesOfBlocks(t *testing.T) { // P1.1
	for _, r := range []struct {
		n    int
		want string
	}{
		{1, "4bf5122f344554c53bde2ebb8cd2b7e3d1600ad631c385a5d7cce23c7785459a"},
		{55, "81afe5b788dc2ce138ff83d9b20164db75a94d75d2b2432eea4a0ef605088c72"},
		{56, "2aba54f0ac632420a2b502431408866e40e1d5e430df4cd822642c78ab2eb9c1"},
		{63, "733d3d4ee79ee67145bf73da13588f6f235d37414fc64b14a2f00f1762792f5e"},
		{64, "79322907b3e9d013d7dc2c2f256674dbf733045cde01df3539271c6f5605feb8"},
		{65, "d85c007c6eb440f085afa2b84f6f2bce4658b240e9f62cb1364bf0485a57e720"},
		{119, "6c87eedf096b345de205b702e5223b73b447a3207791ded3ea007ba15ed6736e"},
		{120, "42500cf6a1e3936d6b9e0bcfe296d654b63255e525487d3634d0b15fde591c4d"},
		{128, "489d55fea9a73af36b6dd0be7b4117d8e5683386d39544e8a44c99a87f368707"},
	} {
		if got := asDigits(sha.Sum(pattern(r.n))); got != r.want {
			t.Errorf("%d bytes: %s, want %s", r.n, got, r.want)
		}
	}
}

func TestSumOfEachLength(t *testing.T) { // P1.1
	for n := range 400 {
		b := pattern(n)
		if sha.Sum(b) != api.Digest(sha256.Sum256(b)) {
			t.Errorf("%d bytes: another digest", n)
		}
	}
}

func TestPieces(t *testing.T) { // P1.2
	for _, lengths := range [][]int{
		{0},
		{0, 0, 1, 0},
		{1, 1, 1},
		{64},
		{64, 64, 0, 64},
		{63, 1, 63, 2},
		{1, 63, 64},
		{1, 64, 63},
		{55, 1, 7, 1, 1},
		{200},
		{3, 200, 61, 129, 0, 5},
		{128, 1, 127, 1000},
	} {
		h := sha.New()
		var all []byte
		for i, n := range lengths {
			piece := pattern(n)
			h.Write(piece)
			all = append(all, piece...)
			want := api.Digest(sha256.Sum256(all))
			// Asked twice: the first asking must not change what the second one tells.
			if h.Sum() != want || h.Sum() != want {
				t.Errorf("%v: another digest behind piece %d", lengths, i)
			}
			if h.Len() != int64(len(all)) {
				t.Errorf("%v: Len %d behind piece %d, want %d", lengths, h.Len(), i, len(all))
			}
		}
	}
}

func TestPiecesOfEachLength(t *testing.T) { // P1.2
	all := pattern(300)
	want := api.Digest(sha256.Sum256(all))
	for n := 1; n <= len(all); n++ {
		quiet, asked := sha.New(), sha.New()
		for at := 0; at < len(all); at += n {
			piece := all[at:min(at+n, len(all))]
			quiet.Write(piece)
			asked.Write(piece)
			asked.Sum()
			asked.Len()
		}
		if quiet.Sum() != want || asked.Sum() != want {
			t.Errorf("pieces of %d bytes: another digest", n)
		}
		if quiet.Len() != 300 || asked.Len() != 300 {
			t.Errorf("pieces of %d bytes: Len %d, %d", n, quiet.Len(), asked.Len())
		}
	}
}

func TestNewHash(t *testing.T) { // P1.2
	h := sha.New()
	checkDigest(t, "Sum of a new hash", h.Sum(), empty)
	if h.Len() != 0 {
		t.Errorf("Len of a new hash: %d", h.Len())
	}
	h.Write(nil)
	h.Write([]byte{})
	checkDigest(t, "Sum behind pieces of no bytes", h.Sum(), empty)
}

func TestHashesAreTheirOwn(t *testing.T) { // P1.2, rule 5
	a, b := sha.New(), sha.New()
	a.Write([]byte("ab"))
	b.Write([]byte("x"))
	a.Write([]byte("c"))
	if a.Sum() != sha.Sum([]byte("abc")) || b.Sum() != sha.Sum([]byte("x")) {
		t.Error("what one hash was given is told by another")
	}
	checkDigest(t, "Sum of a third hash", sha.New().Sum(), empty)
}

func TestNilHash(t *testing.T) { // P1.2, rule 6
	var h *sha.Hash
	for range 2 {
		checkDigest(t, "Sum of a nil hash", h.Sum(), empty)
		if h.Len() != 0 {
			t.Errorf("Len of a nil hash: %d", h.Len())
		}
		h.Write([]byte("abc"))
	}
}

func TestHex(t *testing.T) { // P1.3
	var rising api.Digest
	for i := range rising {
		rising[i] = byte(i * 9)
	}
	for _, d := range []api.Digest{{}, {0: 0x0f, 31: 0xf0}, rising, sha.Sum(nil), sha.Sum([]byte("abc"))} {
		s := sha.Hex(d)
		if s != asDigits(d) {
			t.Errorf("Hex: %s, want %s", s, asDigits(d))
		}
		if back, e := sha.Unhex(s); back != d || e != api.OK {
			t.Errorf("Unhex(%s): %v, %v", s, back, e)
		}
	}
}

func TestHexOfEachByte(t *testing.T) { // P1.3
	for v := range 256 {
		for at := range 32 {
			var d api.Digest
			d[at] = byte(v)
			if s := sha.Hex(d); s != asDigits(d) {
				t.Errorf("Hex: %s, want %s", s, asDigits(d))
			}
			if back, e := sha.Unhex(asDigits(d)); back != d || e != api.OK {
				t.Errorf("Unhex(%s): %v, %v", asDigits(d), back, e)
			}
		}
	}
}

func checkNoDigits(t *testing.T, s string) {
	t.Helper()
	if d, e := sha.Unhex(s); e != api.ErrForm || d != (api.Digest{}) {
		t.Errorf("Unhex(%q): %v, %v", s, d, e)
	}
}

func TestUnhexOfWrongLengths(t *testing.T) { // P1.3
	digits := strings.Repeat("0123456789abcdef", 9)
	for n := range len(digits) {
		if n != 64 {
			checkNoDigits(t, digits[:n])
		}
	}
	// 64 signs, but more bytes.
	checkNoDigits(t, strings.Repeat("é", 64))
	checkNoDigits(t, digits[:63]+"é")
	checkNoDigits(t, "0x"+digits[:64])
	checkNoDigits(t, digits[:64]+"\n")
}

func TestUnhexOfOtherSigns(t *testing.T) { // P1.3
	digits := strings.Repeat("0123456789abcdef", 4)
	for v := range 256 {
		if strings.IndexByte("0123456789abcdef", byte(v)) >= 0 {
			continue
		}
		for _, at := range []int{0, 1, 31, 32, 62, 63} {
			b := []byte(digits)
			b[at] = byte(v)
			checkNoDigits(t, string(b))
		}
	}
	checkNoDigits(t, strings.ToUpper(digits))
	checkNoDigits(t, strings.Repeat("é", 32))
}

func TestCompare(t *testing.T) { // P1.4
	var all api.Digest
	for i := range all {
		all[i] = 0x80
	}
	with := func(at int, v byte) api.Digest {
		d := all
		d[at] = v
		return d
	}
	for at := range 32 {
		low, high := with(at, 0x7f), with(at, 0x81)
		if at < 31 { // the bytes behind the first that differs say nothing
			low[31], high[31] = 0xff, 0
		}
		for _, r := range []struct {
			a, b api.Digest
			want int
		}{
			{low, high, -1}, {high, low, 1}, {low, low, 0}, {high, high, 0},
			{low, all, -1}, {all, low, 1}, {all, high, -1}, {high, all, 1},
		} {
			if got := sha.Compare(r.a, r.b); got != r.want {
				t.Errorf("byte %d: %s, %s: %d, want %d", at, asDigits(r.a), asDigits(r.b), got, r.want)
			}
		}
	}
	if sha.Compare(api.Digest{}, api.Digest{0: 255}) != -1 || sha.Compare(api.Digest{31: 255}, api.Digest{}) != 1 {
		t.Error("bytes are from 0 to 255")
	}
}

// handed: some bytes, and the whole of the memory they stand in: there is room ahead and behind.
func handed(n int) (piece, whole []byte) {
	whole = pattern(n + 300)
	return whole[100 : 100+n], whole
}

func TestWhatIsHandedInIsNotChanged(t *testing.T) { // rule 3
	for _, n := range []int{0, 1, 55, 56, 63, 64, 65, 120, 200} {
		piece, whole := handed(n)
		before := bytes.Clone(whole)
		sha.Sum(piece)
		h := sha.New()
		h.Write(piece)
		h.Write(piece)
		h.Sum()
		if !bytes.Equal(whole, before) {
			t.Errorf("%d bytes: they, or the room round them, were changed", n)
		}
	}
}

func TestWhatIsHandedInIsNotKept(t *testing.T) { // rule 3
	for _, n := range []int{1, 55, 63, 64, 65, 130} {
		piece := pattern(n)
		want := append(bytes.Clone(piece), piece...)
		h := sha.New()
		for range 2 {
			copy(piece, pattern(n))
			h.Write(piece)
			clear(piece)
		}
		if h.Sum() != api.Digest(sha256.Sum256(want)) {
			t.Errorf("%d bytes: written over behind the call, and the digest is another one", n)
		}
	}
}

func TestDigestsAnsweredAreNotChangedLater(t *testing.T) { // rules 2, 3
	h := sha.New()
	h.Write([]byte("abc"))
	first := h.Sum()
	text := sha.Hex(first)
	h.Write([]byte("more"))
	h.Sum()
	if first != sha.Sum([]byte("abc")) || sha.Hex(first) != text {
		t.Error("a digest that was answered changed")
	}
}
