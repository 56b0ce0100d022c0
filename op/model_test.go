package op_test

import (
	"bytes"
	"math/rand"
	"slices"
	"testing"

	"veneer/api"
	"veneer/op"
)

// drawnOp: an operation of any kind, with any fields.
func drawnOp(r *rand.Rand) api.Op {
	return api.Op{
		Kind: pick(r, r.Intn(12), number(r)),
		Path: bytesOf(r, 1100),
		To:   bytesOf(r, 1100),
		Data: bytesOf(r, 1100),
		At:   number(r),
		Size: number(r),
	}
}

// drawnResult: a result with any fields.
func drawnResult(r *rand.Rand) api.Result {
	x := api.Result{Code: api.Errno(number(r)), Dir: r.Intn(2) == 0, Size: number(r), Data: bytesOf(r, 1100)}
	for range pick(r, 0, 0, 1, 2, r.Intn(20), r.Intn(513)) {
		x.Names = append(x.Names, bytesOf(r, pick(r, 3, 3, 3, 16, 200)))
	}
	return x
}

// P10.5: what is written is read as it was.
func TestDrawnThereAndBack(t *testing.T) {
	r := rand.New(rand.NewSource(105))
	for range 4000 {
		o := drawnOp(r)
		writes(t, "drawn", o)
		b, _ := op.Encode(o)
		if got, e := op.Decode(b); e != api.OK || got != o {
			t.Errorf("P10.5: Decode(Encode(o)): %s, %d; want %s", show(got), e, show(o))
		}
		x := drawnResult(r)
		packs(t, "drawn", x)
		b, _ = op.Pack(x)
		if got, e := op.Unpack(b); e != api.OK || !same(got, x) {
			t.Errorf("P10.5: Unpack(Pack(r)): %s, %d; want %s", show(got), e, show(x))
		}
	}
}

// reads: whether b is read as an operation, a result; what is read must be written as b.
func reads(t *testing.T, b []byte) (bool, bool) {
	t.Helper()
	o, e := op.Decode(b)
	if e == api.OK {
		if back, f := op.Encode(o); f != api.OK || !bytes.Equal(back, b) {
			t.Errorf("P10.5: Decode(%.60x): %s; Encode of that: %.60x, %d", b, show(o), back, f)
		}
	} else {
		noOp(t, "drawn", b)
	}
	r, f := op.Unpack(b)
	if f == api.OK {
		if back, g := op.Pack(r); g != api.OK || !bytes.Equal(back, b) {
			t.Errorf("P10.5: Unpack(%.60x): %s; Pack of that: %.60x, %d", b, show(r), back, g)
		}
	} else {
		noResult(t, "drawn", b)
	}
	return e == api.OK, f == api.OK
}

// P10.5: of drawn bytes that are read, what is read is written as those bytes.
func TestDrawnBytes(t *testing.T) {
	r := rand.New(rand.NewSource(106))
	ops, results := 0, 0
	count := func(b []byte) {
		isOp, isResult := reads(t, b)
		if isOp {
			ops++
		}
		if isResult {
			results++
		}
	}
	for range 200000 {
		b := make([]byte, r.Intn(12))
		for i := range b {
			b[i] = pick(r, 0, 0, 0, 1, 1, 2, 3, 5, 0x7f, 0x80, 0x81, 0xff, byte(r.Intn(256)))
		}
		count(b)
	}
	if ops < 1000 || results < 1000 {
		t.Errorf("P10.5: of drawn bytes only %d are operations, %d results", ops, results)
	}
}

// P10.5: bytes with one that is changed, taken out, put in: they mean another one, or none.
func TestNeighbours(t *testing.T) {
	for _, o := range sampleOps() {
		for _, b := range neighbours(spell(o)) {
			reads(t, b)
			if got, e := op.Decode(b); e == api.OK && got == o {
				t.Errorf("P10.5: %.60x, too, are %s", b, show(o))
			}
		}
	}
	for _, r := range sampleResults() {
		for _, b := range neighbours(spellResult(r)) {
			reads(t, b)
			if got, e := op.Unpack(b); e == api.OK && same(got, r) {
				t.Errorf("P10.5: %.60x, too, are %s", b, show(r))
			}
		}
	}
}

// neighbours: bytes that differ from b in one place; of many bytes, in some of their places.
func neighbours(b []byte) [][]byte {
	var list [][]byte
	add := func(c []byte) {
		if !bytes.Equal(b, c) {
			list = append(list, c)
		}
	}
	for at := 0; at < len(b); at += 1 + len(b)/60 {
		for _, turn := range []byte{1, 2, 0x40, 0x80, 0xff} {
			c := slices.Clone(b)
			c[at] ^= turn
			add(c)
		}
		add(slices.Delete(slices.Clone(b), at, at+1))
		for _, more := range []byte{0, 1, 0x80, 0xff} {
			add(slices.Insert(slices.Clone(b), at, more))
		}
	}
	return list
}

// P10.5: no two operations have the same bytes, no two results.
func TestNoTwoAlike(t *testing.T) {
	all := append(sampleOps(), api.Op{Path: "a"}, api.Op{To: "a"}, api.Op{Data: "a"}, api.Op{At: 1}, api.Op{Size: 1}, api.Op{At: -1}, api.Op{Path: "a", To: "b"}, api.Op{Path: "ab"}, api.Op{Path: "", To: "ab"})
	for i, a := range all {
		for _, b := range all[:i] {
			x, _ := op.Encode(a)
			y, _ := op.Encode(b)
			if bytes.Equal(x, y) != (a == b) {
				t.Errorf("P10.5: %s and %s: %.60x, %.60x", show(a), show(b), x, y)
			}
		}
	}
	results := append(sampleResults(), api.Result{Dir: true}, api.Result{Size: 1}, api.Result{Code: 1}, api.Result{Code: -1}, api.Result{Data: "a"},
		api.Result{Names: []string{"a"}}, api.Result{Names: []string{"a", ""}}, api.Result{Names: []string{"", "a"}}, api.Result{Names: []string{"a", "b"}}, api.Result{Names: []string{"ab"}})
	for i, a := range results {
		for _, b := range results[:i] {
			x, _ := op.Pack(a)
			y, _ := op.Pack(b)
			if bytes.Equal(x, y) != same(a, b) {
				t.Errorf("P10.5: %s and %s: %.60x, %.60x", show(a), show(b), x, y)
			}
		}
	}
}

// Rule 3: what is handed in isn't changed, its spare room neither.
func TestArgumentsStay(t *testing.T) {
	whole := append(names(20), text(1101), "end")
	before := slices.Clone(whole)
	for _, r := range []api.Result{{Names: whole[3:6]}, {Names: whole}, {Names: whole[:0]}, {Data: text(1101), Names: whole[2:4]}} {
		op.Pack(r)
	}
	if !slices.Equal(whole, before) {
		t.Errorf("rule 3: names were changed: %q", whole)
	}
	var all [][]byte
	for _, o := range sampleOps() {
		all = append(all, spell(o))
	}
	for _, r := range sampleResults() {
		all = append(all, spellResult(r))
	}
	for _, b := range append(all, []byte{1, 2}, []byte{0, 0, 0, 0, 9}) {
		room := slices.Concat([]byte("ahead"), b, []byte("behind, with room"))
		was := slices.Clone(room)
		in := room[5 : 5+len(b)]
		op.Decode(in)
		op.Unpack(in)
		if !bytes.Equal(room, was) {
			t.Errorf("rule 3: bytes, or those round them, were changed: %.60x", room)
		}
	}
}

// Rule 3: what is handed in may be written over behind the call; what is answered is new memory.
func TestAnswersAreNew(t *testing.T) {
	for _, o := range sampleOps() {
		b, _ := op.Encode(o)
		twin, _ := op.Encode(o)
		got, _ := op.Decode(b)
		clear(b)
		_ = append(b, "more and more"...)
		if again, _ := op.Encode(o); got != o || !bytes.Equal(twin, spell(o)) || !bytes.Equal(again, spell(o)) {
			t.Errorf("rule 3: of %s an answer went with another one, or with its argument", show(o))
		}
	}
	for _, r := range sampleResults() {
		own := r
		own.Names = slices.Clone(r.Names)
		b, _ := op.Pack(own)
		twin, _ := op.Pack(own)
		clear(own.Names)
		got, _ := op.Unpack(b)
		other, _ := op.Unpack(b)
		clear(b)
		_ = append(b, "more and more"...)
		clear(other.Names)
		_ = append(other.Names, "more", "and more")
		if third, _ := op.Unpack(twin); !same(got, r) || !same(third, r) || !bytes.Equal(twin, spellResult(r)) {
			t.Errorf("rule 3: of %s an answer went with another one, or with its argument", show(r))
		}
	}
}
