package op_test

import (
	"bytes"
	"math"
	"slices"
	"testing"

	"veneer/api"
	"veneer/op"
)

// P10.3, P10.4: the chapter's examples, and some more byte by byte.
func TestBytesExamples(t *testing.T) {
	for _, r := range []struct {
		o    api.Op
		want string
	}{
		{api.Op{Kind: api.OpMkdir, Path: "/a"}, "\x02\x02/a\x00\x00\x00\x00"},
		{api.Op{}, "\x00\x00\x00\x00\x00\x00"},
		{api.Op{Kind: api.OpWrite, Path: "/f", Data: "xyz", At: 1}, "\x06\x02/f\x00\x03xyz\x02\x00"},
		{api.Op{Kind: api.OpRename, Path: "/f", To: "/gg"}, "\x0e\x02/f\x03/gg\x00\x00\x00"},
		{api.Op{Kind: api.OpRead, Path: "/", At: 150, Size: 64}, "\x10\x01/\x00\x00\xac\x02\x80\x01"},
		{api.Op{Kind: api.OpForget, At: 8}, "\x16\x00\x00\x00\x10\x00"},
		{api.Op{Kind: -1, At: -64, Size: -65}, "\x01\x00\x00\x00\x7f\x81\x01"},
	} {
		if b, e := op.Encode(r.o); e != api.OK || string(b) != r.want {
			t.Errorf("P10.3: Encode(%v): %x, %d; want %x", r.o, b, e, r.want)
		}
		if o, e := op.Decode([]byte(r.want)); e != api.OK || o != r.o {
			t.Errorf("P10.3: Decode(%x): %v, %d; want %v", r.want, o, e, r.o)
		}
	}
	for _, r := range []struct {
		r    api.Result
		want string
	}{
		{api.Result{}, "\x00\x00\x00\x00\x00"},
		{api.Result{Code: api.ErrNone, Dir: true, Size: 3, Data: "d", Names: []string{"a/", "b"}}, "\x08\x01\x06\x01d\x02\x02a/\x01b"},
		{api.Result{Code: api.ErrBig, Size: -1, Names: []string{""}}, "\x8c\x02\x00\x01\x00\x01\x00"},
	} {
		if b, e := op.Pack(r.r); e != api.OK || string(b) != r.want {
			t.Errorf("P10.4: Pack(%v): %x, %d; want %x", r.r, b, e, r.want)
		}
		if got, e := op.Unpack([]byte(r.want)); e != api.OK || !same(got, r.r) {
			t.Errorf("P10.4: Unpack(%x): %v, %d; want %v", r.want, got, e, r.r)
		}
	}
}

// P10.3: each kind's bytes, and those of operations that Check refuses.
func TestEncode(t *testing.T) {
	refused := 0
	for _, o := range sampleOps() {
		writes(t, "sample", o)
		if op.Check(o) != api.OK {
			refused++
		}
	}
	if refused < 10 {
		t.Errorf("P10.3: only %d of the sample are refused by Check", refused)
	}
	for _, kind := range noKinds() {
		writes(t, "no kind", api.Op{Kind: kind, Path: "x", To: "y", Data: "z", At: kind, Size: -kind})
	}
	for _, n := range []int{0, 1, -1, 63, 64, -64, -65, 8191, 8192, -8192, -8193, 1 << 40, -1 << 40, math.MaxInt, math.MinInt} {
		writes(t, "number", api.Op{Kind: n})
		writes(t, "number", api.Op{At: n})
		writes(t, "number", api.Op{Size: n})
	}
}

// P10.3: texts of 1100 bytes and of 1101, one, several, all.
func TestEncodeLong(t *testing.T) {
	counts := []int{0, 1, 127, 128, 1024, 1025, 1099, 1100, 1101, 1102, 2048, 2049, 1 << 14, 1 << 20}
	for _, kind := range []int{1, 3, 7, 0, 12, -1} {
		for _, a := range counts {
			for k, o := range []api.Op{{Path: text(a)}, {To: text(a)}, {Data: text(a)}, {Path: text(a), To: text(a), Data: text(a)}} {
				o.Kind, o.At = kind, k
				if a <= api.MaxField {
					writes(t, "of a length", o)
				} else {
					tooLong(t, "of a length", o)
				}
			}
		}
	}
	tooLong(t, "of which one is too long", api.Op{Path: text(1101), To: text(1100), Data: text(1100)})
	tooLong(t, "of which one is too long", api.Op{Path: text(1100), To: text(1101), Data: text(1100)})
	tooLong(t, "of which one is too long", api.Op{Path: text(1100), To: text(1100), Data: text(1101)})
}

// P10.3: bytes that are cut off anywhere, or have more behind them.
func TestDecodeOtherLengths(t *testing.T) {
	noOp(t, "nil", nil)
	noOp(t, "no bytes", []byte{})
	for _, o := range append(sampleOps(), api.Op{Kind: 1, Path: text(1100), To: text(1100), Data: text(1100)}) {
		b := spell(o)
		for at := range b {
			noOp(t, "cut off", b[:at])
			noOp(t, "cut off, without room", b[:at:at])
		}
		for _, more := range []string{"\x00", "\x01", "\x80", "\xff", "\x00\x00\x00\x00\x00\x00", string(b)} {
			noOp(t, "with more behind", append(slices.Clone(b), more...))
		}
	}
}

// P10.3, P10.4: a number that isn't in its shortest form, or has more than 64 bits, at each place where there is one.
func TestNumbersInOtherForms(t *testing.T) {
	odd := []string{"\x80\x00", "\x81\x00", "\x80\x80\x00", "\xff\x00", "\xff\xff\xff\xff\xff\xff\xff\xff\xff\x02", "\xff\xff\xff\xff\xff\xff\xff\xff\xff\x7f", "\x80\x80\x80\x80\x80\x80\x80\x80\x80\x80\x01", "\xff\xff\xff\xff\xff\xff\xff\xff\xff\xff\xff\x01"}
	for _, s := range odd {
		for at := range 6 {
			b := slices.Replace(make([]byte, 6), at, at+1, []byte(s)...)
			noOp(t, "a number in another form", b)
		}
		for at := range 5 {
			if at == 1 { // the flag
				continue
			}
			b := slices.Replace(make([]byte, 5), at, at+1, []byte(s)...)
			noResult(t, "a number in another form", b)
		}
		noResult(t, "a name's number in another form", append([]byte{0, 0, 0, 0, 1}, s...))
		noResult(t, "the second name's number in another form", append([]byte{0, 0, 0, 0, 2, 0}, s...))
	}
	noOp(t, "a text's length in another form", []byte("\x02\x82\x00/a\x00\x00\x00\x00"))
	noResult(t, "a text's length in another form", []byte("\x00\x00\x00\x82\x00ab\x00"))
	noResult(t, "how many names, in another form", []byte("\x00\x00\x00\x00\x81\x00\x00"))
	noResult(t, "a name's length in another form", []byte("\x00\x00\x00\x00\x01\x81\x00a"))
}

// P10.3, P10.4: a text whose bytes aren't there, however long it says that it is.
func TestTextsThatArentThere(t *testing.T) {
	for _, s := range []string{"\x01", "\x10", "\xcc\x08", "\xcd\x08", "\xff\xff\x03", "\xff\xff\xff\xff\xff\xff\xff\xff\x7f", "\xff\xff\xff\xff\xff\xff\xff\xff\xff\x01"} {
		noOp(t, "Path", append([]byte{2}, s...))
		noOp(t, "To", append([]byte{2, 0}, s...))
		noOp(t, "Data", append([]byte{2, 0, 0}, s...))
		noResult(t, "Data", append([]byte{0, 0, 0}, s...))
		noResult(t, "a name", append([]byte{0, 0, 0, 0, 1}, s...))
		noResult(t, "how many names", append([]byte{0, 0, 0, 0}, s...))
		noResult(t, "how many names, one there", append(append([]byte{0, 0, 0, 0}, s...), 0, 9))
	}
}

// P10.4: results of all shapes.
func TestPack(t *testing.T) {
	for _, r := range sampleResults() {
		packs(t, "sample", r)
	}
	for _, n := range []int{0, 1, -1, 63, 64, -64, -65, 8191, 8192, -8192, -8193, 1 << 40, -1 << 40, math.MaxInt, math.MinInt} {
		packs(t, "number", api.Result{Code: api.Errno(n)})
		packs(t, "number", api.Result{Size: n})
		packs(t, "number", api.Result{Code: api.Errno(n), Dir: true, Size: -n, Data: "x", Names: []string{"y"}})
	}
}

// P10.4: Data and names of 1100 bytes and of 1101.
func TestPackLong(t *testing.T) {
	for _, count := range []int{0, 1, 127, 128, 1024, 1025, 1099, 1100, 1101, 1102, 2049, 1 << 14, 1 << 20} {
		for _, r := range []api.Result{
			{Data: text(count)},
			{Names: []string{text(count)}},
			{Names: []string{"a", text(count)}},
			{Names: []string{text(count), "a"}},
			{Names: append(names(511), text(count))},
			{Code: api.ErrBig, Dir: true, Size: 9, Data: text(count), Names: []string{text(count), text(count)}},
		} {
			if count <= api.MaxField {
				packs(t, "of a length", r)
			} else {
				refuses(t, "of a length", r, api.ErrLong)
			}
		}
	}
	refuses(t, "Data is too long, a name isn't", api.Result{Data: text(1101), Names: []string{text(1100)}}, api.ErrLong)
	refuses(t, "a name is too long, Data isn't", api.Result{Data: text(1100), Names: []string{text(1101)}}, api.ErrLong)
}

// P10.4: 512 names and 513; and with a text that is too long besides, wherever it stands: ErrLong.
func TestPackMany(t *testing.T) {
	packs(t, "511 names", api.Result{Names: names(511)})
	packs(t, "512 names", api.Result{Names: names(512)})
	packs(t, "512 empty names", api.Result{Names: make([]string, 512)})
	for _, count := range []int{513, 514, 1024, 1 << 14, 1 << 16} {
		refuses(t, "too many names", api.Result{Names: names(count)}, api.ErrMany)
		refuses(t, "too many empty names", api.Result{Names: make([]string, count)}, api.ErrMany)
		refuses(t, "too many names, Data of 1100 bytes", api.Result{Data: text(1100), Names: names(count)}, api.ErrMany)
		refuses(t, "too many names, Data too long", api.Result{Data: text(1101), Names: names(count)}, api.ErrLong)
		for _, at := range []int{0, 1, 511, 512, count - 1} {
			list := names(count)
			list[at] = text(1101)
			refuses(t, "too many names, one too long", api.Result{Names: list}, api.ErrLong)
			list[at] = text(1100)
			refuses(t, "too many names, one of 1100 bytes", api.Result{Names: list}, api.ErrMany)
		}
	}
}

// P10.4: bytes that are cut off anywhere, or have more behind them.
func TestUnpackOtherLengths(t *testing.T) {
	noResult(t, "nil", nil)
	noResult(t, "no bytes", []byte{})
	for _, r := range append(sampleResults(), api.Result{Data: text(1100), Names: []string{text(1100)}}) {
		b := spellResult(r)
		for at := range b {
			noResult(t, "cut off", b[:at])
			noResult(t, "cut off, without room", b[:at:at])
		}
		for _, more := range []string{"\x00", "\x01", "\x80", "\xff", "\x00\x00\x00\x00\x00", string(b)} {
			noResult(t, "with more behind", append(slices.Clone(b), more...))
		}
	}
}

// P10.4: the flag is 0 or 1.
func TestUnpackFlag(t *testing.T) {
	for _, r := range []api.Result{{}, {Dir: true}, {Dir: true, Size: 2, Data: "d", Names: []string{"a", "b"}}} {
		b := spellResult(r)
		for flag := range 256 {
			b[1] = byte(flag)
			r.Dir = flag == 1
			if flag > 1 {
				noResult(t, "another flag", b)
			} else if got, e := op.Unpack(b); e != api.OK || !same(got, r) {
				t.Errorf("P10.4: flag %d: %v, %d; want %v", flag, got, e, r)
			}
		}
	}
}

// P10.4: a number of names that no bytes stand behind, or too few, or too many.
func TestUnpackNames(t *testing.T) {
	for count := 1; count < 600; count++ {
		b := spellResult(api.Result{Names: make([]string, count)})
		head := len(b) - count
		noResult(t, "no names", b[:head])
		noResult(t, "a name too few", b[:len(b)-1])
		noResult(t, "a name too many", append(slices.Clone(b), 0))
		if count > api.MaxNames {
			noResult(t, "more names than may be", b)
		}
	}
	for _, s := range []string{"\x80\x80\x04", "\xff\xff\xff\xff\x07", "\xff\xff\xff\xff\xff\xff\xff\xff\x7f", "\xff\xff\xff\xff\xff\xff\xff\xff\xff\x01", "\x80\x80\x80\x80\x80\x80\x80\x80\x80\x01"} {
		noResult(t, "great numbers of names", append([]byte{0, 0, 0, 0}, s...))
		noResult(t, "great numbers of names, some there", append(append([]byte{0, 0, 0, 0}, s...), make([]byte, 3000)...))
	}
}

// P10.3, P10.4, rule 6: many bytes, which are no operation's and no result's.
func TestManyBytes(t *testing.T) {
	for _, v := range []byte{0, 1, 2, 127, 128, 255} {
		b := bytes.Repeat([]byte{v}, 1<<20)
		noOp(t, "many bytes", b)
		noResult(t, "many bytes", b)
	}
}
