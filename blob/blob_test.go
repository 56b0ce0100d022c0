package blob_test

import (
	"bytes"
	"math"
	"math/rand"
	"slices"
	"testing"

	"veneer/api"
	"veneer/blob"
	"veneer/sha"
)

// list: blobs of texts.
func list(texts ...string) [][]byte {
	var out [][]byte
	for _, s := range texts {
		out = append(out, []byte(s))
	}
	return out
}

// sum: a text's digest.
func sum(s string) api.Digest { return sha.Sum([]byte(s)) }

// store: one with these blobs.
func store(t *testing.T, quota int, texts ...string) *blob.Store {
	t.Helper()
	s := blob.New(quota)
	if e := s.PutAll(list(texts...)); e != api.OK {
		t.Fatalf("New(%d), PutAll(%.8q): %d", quota, texts, e)
	}
	return s
}

// put: Put must answer this error, and the digest or nothing beside it.
func put(t *testing.T, s *blob.Store, text string, want api.Errno) {
	t.Helper()
	digest := api.Digest{}
	if want == api.OK {
		digest = sum(text)
	}
	if d, e := s.Put([]byte(text)); e != want || d != digest {
		t.Errorf("Put of %d bytes: %s, %d; want %s, %d", len(text), sha.Hex(d), e, sha.Hex(digest), want)
	}
}

// putAll: PutAll must answer this error.
func putAll(t *testing.T, s *blob.Store, want api.Errno, texts ...string) {
	t.Helper()
	if e := s.PutAll(list(texts...)); e != want {
		t.Errorf("PutAll of %d blobs: %d, want %d", len(texts), e, want)
	}
}

// spoil: Spoil must answer this error.
func spoil(t *testing.T, s *blob.Store, text string, at int, turn byte, want api.Errno) {
	t.Helper()
	if e := s.Spoil(sum(text), at, turn); e != want {
		t.Errorf("Spoil of %.8q at %d with %d: %d, want %d", text, at, turn, e, want)
	}
}

// drop: Drop must answer this error.
func drop(t *testing.T, s *blob.Store, text string, want api.Errno) {
	t.Helper()
	if e := s.Drop(sum(text)); e != want {
		t.Errorf("Drop of %.8q: %d, want %d", text, e, want)
	}
}

// whole: the blob of a text must be there, with its bytes.
func whole(t *testing.T, s *blob.Store, text string) {
	t.Helper()
	if b, e := s.Get(sum(text)); e != api.OK || string(b) != text || !s.Has(sum(text)) {
		t.Errorf("Get of %.8q: %.8q, %d; Has: %v", text, b, e, s.Has(sum(text)))
	}
}

// missing: the blob of a text may not be read, by this error, nothing beside it; it is there if it is broken.
func missing(t *testing.T, s *blob.Store, text string, want api.Errno) {
	t.Helper()
	there := want == api.ErrBroken
	if b, e := s.Get(sum(text)); e != want || len(b) != 0 || s.Has(sum(text)) != there {
		t.Errorf("Get of %.8q: %.8q, %d; want the error %d alone; Has: %v", text, b, e, want, s.Has(sum(text)))
	}
}

// digests: what All goes over.
func digests(s *blob.Store) []api.Digest { return slices.Collect(s.All()) }

// rising: the digests of texts, rising.
func rising(texts ...string) []api.Digest {
	var out []api.Digest
	for _, s := range texts {
		out = append(out, sum(s))
	}
	slices.SortFunc(out, func(a, b api.Digest) int { return bytes.Compare(a[:], b[:]) })
	return out
}

// holds: Count, Bytes and All must tell of these blobs, none of them twice.
func holds(t *testing.T, s *blob.Store, texts ...string) {
	t.Helper()
	total := 0
	for _, x := range texts {
		total += len(x)
	}
	if s.Count() != len(texts) || s.Bytes() != total {
		t.Errorf("Count %d, Bytes %d; want %d, %d", s.Count(), s.Bytes(), len(texts), total)
	}
	if !slices.Equal(digests(s), rising(texts...)) {
		t.Errorf("All: %d digests, or others, or not rising; want those of %.8q", len(digests(s)), texts)
	}
}

// text: n bytes, unlike those of another mark.
func text(n int, mark byte) string { return string(bytes.Repeat([]byte{mark}, n)) }

func TestNew(t *testing.T) { // P5.1
	for _, quota := range []int{math.MinInt, -4097, -1, 0} {
		s := blob.New(quota)
		if s == nil {
			t.Fatalf("New(%d): nil", quota)
		}
		holds(t, s)
		put(t, s, "a", api.ErrFull)
		holds(t, s)
		put(t, s, "", api.OK) // no byte is too much
		holds(t, s, "")
	}
	s := blob.New(1)
	holds(t, s)
	missing(t, s, "", api.ErrLack)
	put(t, s, "a", api.OK)
	put(t, s, "b", api.ErrFull)
	holds(t, s, "a")
	great := blob.New(math.MaxInt)
	putAll(t, great, api.OK, text(4096, 'x'), text(4096, 'y'))
	holds(t, great, text(4096, 'x'), text(4096, 'y'))
}

func TestStoresAreApart(t *testing.T) { // P5.1
	a, b := blob.New(9), blob.New(9)
	put(t, a, "x", api.OK)
	holds(t, a, "x")
	holds(t, b)
}

func TestNilStore(t *testing.T) { // P5.1
	var s *blob.Store
	put(t, s, "", api.ErrNil)
	put(t, s, "a", api.ErrNil)
	put(t, s, text(4097, 'x'), api.ErrNil)
	putAll(t, s, api.ErrNil)
	putAll(t, s, api.ErrNil, "a", text(4097, 'x'))
	if b, e := s.Get(sum("")); e != api.ErrNil || len(b) != 0 {
		t.Errorf("Get: %q, %d", b, e)
	}
	drop(t, s, "", api.ErrNil)
	spoil(t, s, "", 0, 1, api.ErrNil)
	spoil(t, s, "", -1, 0, api.ErrNil)
	if s.Has(sum("")) || s.Count() != 0 || s.Bytes() != 0 || s.Clone() != nil {
		t.Errorf("Has %v, Count %d, Bytes %d, Clone %v", s.Has(sum("")), s.Count(), s.Bytes(), s.Clone())
	}
	if s.All() == nil || len(digests(s)) != 0 {
		t.Error("All of a nil store isn't a loop over nothing")
	}
}

func TestExamples(t *testing.T) { // P5.2: the chapter's
	s := blob.New(3)
	put(t, s, "ab", api.OK)
	put(t, s, "ab", api.OK)
	holds(t, s, "ab")
	put(t, s, "cd", api.ErrFull)
	putAll(t, s, api.OK, "ab", "c", "c")
	holds(t, s, "ab", "c")
	spoil(t, s, "ab", 0, 1, api.OK)
	missing(t, s, "ab", api.ErrBroken)
	put(t, s, "ab", api.OK)
	whole(t, s, "ab")
}

func TestPutAnswersTheDigest(t *testing.T) { // P5.2
	s := blob.New(100)
	d, e := s.Put([]byte("abc"))
	if e != api.OK || sha.Hex(d) != "ba7816bf8f01cfea414140de5dae2223b00361a396177a9cb410ff61f20015ad" {
		t.Errorf("%s, %d", sha.Hex(d), e)
	}
	d, e = s.Put(nil)
	if e != api.OK || sha.Hex(d) != "e3b0c44298fc1c149afbf4c8996fb92427ae41e4649b934ca495991b7852b855" {
		t.Errorf("%s, %d", sha.Hex(d), e)
	}
	holds(t, s, "", "abc")
	whole(t, s, "")
}

func TestLengths(t *testing.T) { // P5.2
	s := blob.New(10000)
	put(t, s, "", api.OK)
	put(t, s, text(4096, 'x'), api.OK)
	put(t, s, text(4097, 'x'), api.ErrLong)
	put(t, s, text(1<<20, 'x'), api.ErrLong)
	holds(t, s, "", text(4096, 'x'))
	whole(t, s, "")
	whole(t, s, text(4096, 'x'))
	missing(t, s, text(4097, 'x'), api.ErrLack)
	putAll(t, s, api.ErrLong, "new", text(4097, 'x'))
	putAll(t, s, api.ErrLong, text(4097, 'x'), "new")
	putAll(t, s, api.ErrLong, "new", text(4097, 'x'), "newer")
	holds(t, s, "", text(4096, 'x'))
	putAll(t, s, api.OK, text(4096, 'y'), "new") // several blobs may have more together
	holds(t, s, "", text(4096, 'x'), text(4096, 'y'), "new")
}

func TestLongComesAheadOfFull(t *testing.T) { // P5.2, rule 1
	s := blob.New(2)
	put(t, s, text(4097, 'x'), api.ErrLong)
	putAll(t, s, api.ErrLong, "abc", text(4097, 'x'))
	putAll(t, s, api.ErrLong, text(4097, 'x'), "abc")
	putAll(t, s, api.ErrFull, "abc", text(4096, 'x'))
	holds(t, s)
}

func TestPutAllOfNothing(t *testing.T) { // P5.2
	s := store(t, 1, "a")
	putAll(t, s, api.OK)
	if e := s.PutAll([][]byte{}); e != api.OK {
		t.Errorf("PutAll of an empty list: %d", e)
	}
	if e := s.PutAll([][]byte{nil, {}}); e != api.OK {
		t.Errorf("PutAll of blobs without bytes: %d", e)
	}
	holds(t, s, "", "a")
}

func TestEachDigestCountsOnce(t *testing.T) { // P5.2
	s := blob.New(5)
	putAll(t, s, api.OK, "abc", "de", "abc", "abc", "de")
	holds(t, s, "abc", "de")
	putAll(t, s, api.OK, "abc", "de", "")
	holds(t, s, "abc", "de", "")
	putAll(t, s, api.ErrFull, "abc", "f")
	s = store(t, 8, "abc")
	putAll(t, s, api.OK, "abc", "defgh", "defgh")
	holds(t, s, "abc", "defgh")
}

func TestRoom(t *testing.T) { // P5.2: what just fits, and one byte too much
	s := store(t, 10, "abcd")
	putAll(t, s, api.ErrFull, "efgh", "ijk")
	putAll(t, s, api.ErrFull, "efghijk")
	putAll(t, s, api.ErrFull, "e", "f", "", "g", "h", "i", "j", "k")
	holds(t, s, "abcd")
	missing(t, s, "efgh", api.ErrLack)
	missing(t, s, "", api.ErrLack)
	putAll(t, s, api.OK, "efgh", "ij")
	holds(t, s, "abcd", "efgh", "ij")
	put(t, s, "k", api.ErrFull)
	put(t, s, "", api.OK)
	put(t, s, "abcd", api.OK) // what is there needs no room
	holds(t, s, "", "abcd", "efgh", "ij")
}

func TestRefusedListChangesNothing(t *testing.T) { // P5.2, rule 4
	s := store(t, 6, "abc")
	spoil(t, s, "abc", 1, 7, api.OK)
	putAll(t, s, api.ErrFull, "abc", "defg")
	missing(t, s, "abc", api.ErrBroken)
	putAll(t, s, api.ErrLong, "abc", text(4097, 'x'))
	missing(t, s, "abc", api.ErrBroken)
	putAll(t, s, api.ErrFull, "de", "abc", "fg", "hi")
	missing(t, s, "abc", api.ErrBroken)
	missing(t, s, "de", api.ErrLack)
	holds(t, s, "abc")
	putAll(t, s, api.OK, "de", "f") // the room is what it was
	holds(t, s, "abc", "de", "f")
}

func TestBrokenIsMended(t *testing.T) { // P5.2: by Put and by PutAll, and without room
	s := store(t, 5, "abc", "de")
	spoil(t, s, "abc", 2, 1, api.OK)
	spoil(t, s, "de", 0, 255, api.OK)
	put(t, s, "abc", api.OK)
	whole(t, s, "abc")
	missing(t, s, "de", api.ErrBroken)
	holds(t, s, "abc", "de")
	spoil(t, s, "abc", 0, 128, api.OK)
	putAll(t, s, api.OK, "de", "abc", "de", "abc") // the first of each digest, and no second time
	whole(t, s, "abc")
	whole(t, s, "de")
	holds(t, s, "abc", "de")
	missing(t, s, "f", api.ErrLack)
	putAll(t, s, api.ErrFull, "abc", "f")
}

func TestBrokenCountsAsThere(t *testing.T) { // P5.2: its bytes need no room a second time
	s := store(t, 4, "abc")
	spoil(t, s, "abc", 0, 1, api.OK)
	putAll(t, s, api.OK, "abc", "d")
	whole(t, s, "abc")
	holds(t, s, "abc", "d")
	s = store(t, 6, "bbc")
	spoil(t, s, "bbc", 0, 3, api.OK) // its bytes are now "abc": that is another blob
	putAll(t, s, api.OK, "abc")
	whole(t, s, "abc")
	missing(t, s, "bbc", api.ErrBroken)
	holds(t, s, "abc", "bbc")
}

func TestGetHasDrop(t *testing.T) { // P5.3
	s := store(t, 20, "", "a", "bcd")
	whole(t, s, "")
	whole(t, s, "a")
	whole(t, s, "bcd")
	missing(t, s, "b", api.ErrLack)
	if b, e := s.Get(api.Digest{}); e != api.ErrLack || len(b) != 0 || s.Has(api.Digest{}) {
		t.Errorf("Get of zeros: %q, %d", b, e)
	}
	near := sum("a")
	near[31] ^= 1
	if _, e := s.Get(near); e != api.ErrLack || s.Has(near) {
		t.Errorf("Get of a digest that is near: %d", e)
	}
	spoil(t, s, "bcd", 1, 1, api.OK)
	missing(t, s, "bcd", api.ErrBroken)
	whole(t, s, "a")
	drop(t, s, "b", api.ErrLack)
	holds(t, s, "", "a", "bcd")
	drop(t, s, "a", api.OK)
	missing(t, s, "a", api.ErrLack)
	drop(t, s, "a", api.ErrLack)
	drop(t, s, "bcd", api.OK) // broken or not
	drop(t, s, "", api.OK)
	holds(t, s)
	drop(t, s, "", api.ErrLack)
}

func TestDropGivesRoomBack(t *testing.T) { // P5.3
	s := store(t, 6, "abc", "def")
	put(t, s, "g", api.ErrFull)
	drop(t, s, "g", api.ErrLack)
	put(t, s, "g", api.ErrFull)
	drop(t, s, "abc", api.OK)
	put(t, s, "ghij", api.ErrFull)
	put(t, s, "ghi", api.OK)
	holds(t, s, "def", "ghi")
	spoil(t, s, "def", 0, 1, api.OK)
	drop(t, s, "def", api.OK)
	put(t, s, "def", api.OK) // put anew it is whole
	whole(t, s, "def")
	holds(t, s, "def", "ghi")
}

func TestSpoil(t *testing.T) { // P5.4
	s := store(t, 9000, "", "abc", text(4096, 'x'))
	for _, at := range []int{math.MinInt, -4096, -1, 3, 4, 4096, math.MaxInt} {
		spoil(t, s, "abc", at, 1, api.ErrArg)
	}
	spoil(t, s, "abc", 1, 0, api.ErrArg)
	spoil(t, s, "abc", 3, 0, api.ErrArg)
	spoil(t, s, "", 0, 1, api.ErrArg) // it has no byte at all
	spoil(t, s, text(4096, 'x'), 4096, 1, api.ErrArg)
	whole(t, s, "abc")
	whole(t, s, text(4096, 'x'))
	spoil(t, s, "ab", 0, 1, api.ErrLack)
	spoil(t, s, "ab", -1, 0, api.ErrLack) // ahead of ErrArg
	spoil(t, s, "ab", 9, 1, api.ErrLack)
	for at := range 3 {
		for _, turn := range []byte{1, 64, 128, 255} {
			spoil(t, s, "abc", at, turn, api.OK)
			missing(t, s, "abc", api.ErrBroken)
			spoil(t, s, "abc", at, turn, api.OK) // the same turn again takes it back
			whole(t, s, "abc")
		}
	}
	spoil(t, s, text(4096, 'x'), 4095, 1, api.OK)
	missing(t, s, text(4096, 'x'), api.ErrBroken)
	holds(t, s, "", "abc", text(4096, 'x'))
}

func TestSpoilLaysOver(t *testing.T) { // P5.4: turns at one place add up by xor, at several they stand side by side
	s := store(t, 3, "abc")
	spoil(t, s, "abc", 0, 1, api.OK)
	spoil(t, s, "abc", 0, 2, api.OK)
	missing(t, s, "abc", api.ErrBroken)
	spoil(t, s, "abc", 2, 9, api.OK)
	spoil(t, s, "abc", 0, 3, api.OK)
	missing(t, s, "abc", api.ErrBroken)
	spoil(t, s, "abc", 0, 0, api.ErrArg)
	spoil(t, s, "abc", 2, 9, api.OK)
	whole(t, s, "abc")
}

func TestCountBehindEachCall(t *testing.T) { // P5.5
	s := blob.New(8)
	holds(t, s)
	put(t, s, "abc", api.OK)
	holds(t, s, "abc")
	put(t, s, "abc", api.OK)
	holds(t, s, "abc")
	putAll(t, s, api.OK, "de", "f", "de")
	holds(t, s, "abc", "de", "f")
	putAll(t, s, api.ErrFull, "g", "hij")
	holds(t, s, "abc", "de", "f")
	whole(t, s, "de")
	missing(t, s, "x", api.ErrLack)
	holds(t, s, "abc", "de", "f")
	spoil(t, s, "abc", 0, 1, api.OK)
	spoil(t, s, "abc", 3, 1, api.ErrArg)
	missing(t, s, "abc", api.ErrBroken)
	holds(t, s, "abc", "de", "f")
	drop(t, s, "x", api.ErrLack)
	holds(t, s, "abc", "de", "f")
	drop(t, s, "abc", api.OK)
	holds(t, s, "de", "f")
	s.Clone()
	digests(s)
	holds(t, s, "de", "f")
}

func TestAllIsAsItWas(t *testing.T) { // P5.5
	s := store(t, 1000, "a", "b", "c")
	before := s.All()
	put(t, s, "d", api.OK)
	drop(t, s, "a", api.OK)
	if !slices.Equal(slices.Collect(before), rising("a", "b", "c")) {
		t.Error("between All and the loop: it isn't as it was")
	}
	if !slices.Equal(slices.Collect(before), rising("a", "b", "c")) {
		t.Error("a second loop: it isn't as it was")
	}
	var seen []api.Digest
	for d := range s.All() {
		seen = append(seen, d)
		s.Put(d[:])
		for _, other := range []string{"b", "c", "d"} {
			s.Drop(sum(other))
		}
	}
	if !slices.Equal(seen, rising("b", "c", "d")) {
		t.Errorf("with Put and Drop in the loop: %d digests", len(seen))
	}
	if s.Count() != 3 || s.Bytes() != 96 {
		t.Errorf("behind the loop: %d, %d", s.Count(), s.Bytes())
	}
}

func TestAllLeftEarly(t *testing.T) { // P5.5
	s := store(t, 1000, "a", "b", "c", "d")
	all := s.All()
	for n := range 5 {
		var seen []api.Digest
		for d := range all {
			if len(seen) == n {
				break
			}
			seen = append(seen, d)
		}
		if !slices.Equal(seen, rising("a", "b", "c", "d")[:n]) {
			t.Errorf("left behind %d: %d digests, or others", n, len(seen))
		}
	}
}

func TestAllOfMany(t *testing.T) { // P5.5: rising by every byte, the first ahead of the later ones
	s := blob.New(1 << 20)
	var texts []string
	for i := range 600 {
		texts = append(texts, string([]byte{byte(i), byte(i >> 8)}))
		put(t, s, texts[i], api.OK)
	}
	holds(t, s, texts...)
}

func TestClone(t *testing.T) { // P5.5
	s := store(t, 6, "abc", "de")
	spoil(t, s, "de", 0, 1, api.OK)
	c := s.Clone()
	holds(t, c, "abc", "de")
	missing(t, c, "de", api.ErrBroken)
	whole(t, c, "abc")
	putAll(t, c, api.ErrFull, "fg") // with the same quota
	put(t, c, "f", api.OK)
	drop(t, c, "abc", api.OK)
	put(t, c, "de", api.OK)
	holds(t, c, "de", "f")
	holds(t, s, "abc", "de")
	whole(t, s, "abc")
	missing(t, s, "de", api.ErrBroken)
	c = s.Clone()
	put(t, s, "g", api.OK)
	drop(t, s, "de", api.OK)
	spoil(t, s, "abc", 0, 1, api.OK)
	holds(t, c, "abc", "de")
	whole(t, c, "abc")
	missing(t, c, "de", api.ErrBroken)
	put(t, c, "h", api.OK)
	put(t, c, "i", api.ErrFull)
	spoil(t, c, "abc", 0, 1, api.OK)
	missing(t, s, "abc", api.ErrBroken) // one turn each, not both on one
	missing(t, c, "abc", api.ErrBroken)
	full := blob.New(0).Clone()
	put(t, full, "a", api.ErrFull)
	put(t, full, "", api.OK)
}

func TestSpoilOfACloneAlone(t *testing.T) { // P5.5
	s := store(t, 6, "abc", "def")
	c := s.Clone()
	spoil(t, c, "abc", 1, 4, api.OK)
	whole(t, s, "abc")
	missing(t, c, "abc", api.ErrBroken)
	spoil(t, s, "def", 1, 4, api.OK)
	whole(t, c, "def")
	missing(t, s, "def", api.ErrBroken)
}

func TestArgumentsAreLeft(t *testing.T) { // rule 3: not changed, not kept, their spare room neither
	s := blob.New(100)
	room := []byte("abcdefgh")
	b := room[:3]
	bytesList := [][]byte{room[3:5], room[5:6], room[3:5], nil}
	d, _ := s.Put(b)
	if e := s.PutAll(bytesList[:3]); e != api.OK {
		t.Fatal(e)
	}
	s.Spoil(d, 0, 1)
	s.Put(b)
	s.Spoil(sum("de"), 0, 1)
	s.PutAll(bytesList[:3])
	if string(room) != "abcdefgh" || bytesList[3] != nil || string(bytesList[0]) != "de" || len(bytesList[1]) != 1 {
		t.Errorf("the arguments are now %q, %q", room, bytesList)
	}
	copy(room, "????????")
	bytesList[0] = nil
	whole(t, s, "abc")
	whole(t, s, "de")
	whole(t, s, "f")
	holds(t, s, "abc", "de", "f")
}

func TestAnswersAreNew(t *testing.T) { // rule 3
	s := store(t, 5000, "abc", text(4096, 'x'))
	for _, x := range []string{"abc", text(4096, 'x')} {
		first, _ := s.Get(sum(x))
		second, _ := s.Get(sum(x))
		for i := range first {
			first[i]++
		}
		if string(second) != x {
			t.Errorf("two answers of Get share memory")
		}
		spoil(t, s, x, 0, 1, api.OK)
		if string(second) != x {
			t.Errorf("Spoil wrote into an answer of Get")
		}
		spoil(t, s, x, 0, 1, api.OK)
		whole(t, s, x)
	}
}

// model: a store, told more plainly: what was put, and what its bytes are now, each by the text.
type model struct {
	quota int
	now   map[string]string
}

func (m *model) bytes() int {
	n := 0
	for x := range m.now {
		n += len(x)
	}
	return n
}

func (m *model) putAll(texts []string) api.Errno {
	fresh := map[string]string{}
	need := 0
	for _, x := range texts {
		if _, ok := m.now[x]; !ok && fresh[x] == "" && x != "" {
			need += len(x)
		}
		fresh[x] = x
	}
	if need > max(m.quota, 0)-m.bytes() {
		return api.ErrFull
	}
	for x := range fresh {
		m.now[x] = x
	}
	return api.OK
}

func (m *model) spoil(x string, at int, turn byte) api.Errno {
	b, ok := m.now[x]
	if !ok {
		return api.ErrLack
	}
	if at < 0 || at >= len(b) || turn == 0 {
		return api.ErrArg
	}
	m.now[x] = b[:at] + string([]byte{b[at] ^ turn}) + b[at+1:]
	return api.OK
}

func (m *model) drop(x string) api.Errno {
	if _, ok := m.now[x]; !ok {
		return api.ErrLack
	}
	delete(m.now, x)
	return api.OK
}

// check: the store must be as the model is.
func (m *model) check(t *testing.T, s *blob.Store, words []string) {
	t.Helper()
	var there []string
	for _, x := range words {
		now, ok := m.now[x]
		switch {
		case !ok:
			missing(t, s, x, api.ErrLack)
			continue
		case now != x:
			missing(t, s, x, api.ErrBroken)
		default:
			whole(t, s, x)
		}
		there = append(there, x)
	}
	holds(t, s, there...)
}

func TestAgainstModel(t *testing.T) { // P5.2 to P5.5: any order of calls
	words := []string{"", "a", "b", "ab", "abc", "bcd", "abcd", "zzzzz"}
	for seed := range int64(40) {
		r := rand.New(rand.NewSource(seed))
		m := &model{quota: r.Intn(16) - 1, now: map[string]string{}}
		s := blob.New(m.quota)
		for range 60 {
			x := words[r.Intn(len(words))]
			switch r.Intn(5) {
			case 0:
				put(t, s, x, m.putAll([]string{x}))
			case 1:
				var several []string
				for range r.Intn(4) {
					several = append(several, words[r.Intn(len(words))])
				}
				putAll(t, s, m.putAll(several), several...)
			case 2:
				at, turn := r.Intn(7)-1, byte(r.Intn(3))
				spoil(t, s, x, at, turn, m.spoil(x, at, turn))
			case 3:
				drop(t, s, x, m.drop(x))
			case 4:
				s = s.Clone()
			}
			m.check(t, s, words)
			if t.Failed() {
				t.Fatalf("seed %d", seed)
			}
		}
	}
}
