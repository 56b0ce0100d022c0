package wire_test

import (
	"bytes"
	"encoding/binary"
	"math"
	"strings"
	"testing"

	"veneer/api"
	"veneer/wire"
)

// rising: a digest whose bytes all differ.
func rising() api.Digest {
	var d api.Digest
	for i := range d {
		d[i] = byte(200 + 7*i)
	}
	return d
}

// made: the bytes of what was put out.
func made(put func(o *wire.Out)) []byte {
	o := &wire.Out{}
	put(o)
	return o.Bytes()
}

func checkBytes(t *testing.T, what string, got, want []byte) {
	t.Helper()
	if !bytes.Equal(got, want) {
		t.Errorf("%s: % x, want % x", what, got, want)
	}
}

// numbers: numbers without a sign, with their bytes.
func numbers() map[uint64][]byte {
	return map[uint64][]byte{
		0:                  {0},
		1:                  {1},
		127:                {0x7f},
		128:                {0x80, 1},
		300:                {0xac, 2},
		16383:              {0xff, 0x7f},
		16384:              {0x80, 0x80, 1},
		1<<21 - 1:          {0xff, 0xff, 0x7f},
		1 << 21:            {0x80, 0x80, 0x80, 1},
		1<<63 - 1:          {0xff, 0xff, 0xff, 0xff, 0xff, 0xff, 0xff, 0xff, 0x7f},
		1 << 63:            {0x80, 0x80, 0x80, 0x80, 0x80, 0x80, 0x80, 0x80, 0x80, 1},
		math.MaxUint64 - 1: {0xfe, 0xff, 0xff, 0xff, 0xff, 0xff, 0xff, 0xff, 0xff, 1},
		math.MaxUint64:     {0xff, 0xff, 0xff, 0xff, 0xff, 0xff, 0xff, 0xff, 0xff, 1},
	}
}

// signed: numbers with a sign, with their bytes.
func signed() map[int64][]byte {
	return map[int64][]byte{
		0:                 {0},
		-1:                {1},
		1:                 {2},
		-2:                {3},
		63:                {0x7e},
		-64:               {0x7f},
		64:                {0x80, 1},
		-65:               {0x81, 1},
		150:               {0xac, 2},
		-150:              {0xab, 2},
		math.MaxInt64:     {0xfe, 0xff, 0xff, 0xff, 0xff, 0xff, 0xff, 0xff, 0xff, 1},
		math.MinInt64:     {0xff, 0xff, 0xff, 0xff, 0xff, 0xff, 0xff, 0xff, 0xff, 1},
		math.MinInt64 + 1: {0xfd, 0xff, 0xff, 0xff, 0xff, 0xff, 0xff, 0xff, 0xff, 1},
	}
}

func TestNumbersAsBytes(t *testing.T) { // P2.1, P2.2, P2.6
	for n, b := range numbers() {
		checkBytes(t, "Num", made(func(o *wire.Out) { o.Num(n) }), b)
		i := wire.Read(b)
		if got := i.Num(); got != n || !i.End() {
			t.Errorf("Num of % x: %d, want %d", b, got, n)
		}
	}
	for n, b := range signed() {
		checkBytes(t, "Int", made(func(o *wire.Out) { o.Int(n) }), b)
		i := wire.Read(b)
		if got := i.Int(); got != n || !i.End() {
			t.Errorf("Int of % x: %d, want %d", b, got, n)
		}
	}
}

func TestNumbersRoundEachPowerOfTwo(t *testing.T) { // P2.1, P2.2, P2.6
	for bit := range 64 {
		for by := uint64(0); by < 5; by++ {
			n := 1<<bit + by - 2
			b := made(func(o *wire.Out) { o.Num(n); o.Int(int64(n)); o.Int(-int64(n)) })
			want := binary.AppendVarint(binary.AppendVarint(binary.AppendUvarint(nil, n), int64(n)), -int64(n))
			checkBytes(t, "Num, Int, Int", b, want)
			i := wire.Read(b)
			if i.Num() != n || i.Int() != int64(n) || i.Int() != -int64(n) || !i.End() {
				t.Errorf("%d isn't read as it was", n)
			}
		}
	}
}

func TestOtherFieldsAsBytes(t *testing.T) { // P2.1
	d := rising()
	for _, r := range []struct {
		what string
		put  func(o *wire.Out)
		want []byte
	}{
		{"Text", func(o *wire.Out) { o.Text("ab") }, []byte{2, 'a', 'b'}},
		{"Text of none", func(o *wire.Out) { o.Text("") }, []byte{0}},
		{"Text of any bytes", func(o *wire.Out) { o.Text("\x00\xff\x80é") }, []byte{5, 0, 255, 128, 0xc3, 0xa9}},
		{"Text of 127", func(o *wire.Out) { o.Text(strings.Repeat("x", 127)) }, append([]byte{127}, strings.Repeat("x", 127)...)},
		{"Text of 128", func(o *wire.Out) { o.Text(strings.Repeat("x", 128)) }, append([]byte{128, 1}, strings.Repeat("x", 128)...)},
		{"Flag yes", func(o *wire.Out) { o.Flag(true) }, []byte{1}},
		{"Flag no", func(o *wire.Out) { o.Flag(false) }, []byte{0}},
		{"Digest", func(o *wire.Out) { o.Digest(d) }, d[:]},
		{"Digest of zeros", func(o *wire.Out) { o.Digest(api.Digest{}) }, make([]byte, 32)},
		{"nothing", func(o *wire.Out) {}, nil},
	} {
		checkBytes(t, r.what, made(r.put), r.want)
	}
}

func TestFieldsOneBehindTheOther(t *testing.T) { // P2.1, P2.2, P2.3, P2.6
	d := rising()
	o := &wire.Out{}
	var want []byte
	// Asked behind each field: asking must not change what comes.
	step := func(put func(), more ...byte) {
		t.Helper()
		put()
		want = append(want, more...)
		checkBytes(t, "so far", o.Bytes(), want)
		checkBytes(t, "asked again", o.Bytes(), want)
	}
	step(func() { o.Num(300) }, 0xac, 2)
	step(func() { o.Text("") }, 0)
	step(func() { o.Int(-1) }, 1)
	step(func() { o.Flag(true) }, 1)
	step(func() { o.Text("ab") }, 2, 'a', 'b')
	step(func() { o.Digest(d) }, d[:]...)
	step(func() { o.Flag(false) }, 0)
	step(func() { o.Num(0) }, 0)

	i := wire.Read(want)
	left := len(want)
	pass := func(what string, right bool, n int) {
		t.Helper()
		left -= n
		if !right || i.Left() != left || i.Err() != api.OK || i.End() != (left == 0) {
			t.Errorf("%s: %v, Left %d (want %d), Err %d, End %v", what, right, i.Left(), left, i.Err(), i.End())
		}
	}
	pass("nothing", true, 0)
	pass("Num", i.Num() == 300, 2)
	pass("Text of none", i.Text(0) == "", 1)
	pass("Int", i.Int() == -1, 1)
	pass("Flag", i.Flag(), 1)
	pass("Text", i.Text(2) == "ab", 3)
	pass("Digest", i.Digest() == d, 32)
	pass("Flag no", !i.Flag(), 1)
	pass("Num 0", i.Num() == 0, 1)
	if !i.End() {
		t.Error("not at the end")
	}
}

func TestBytesAreNewMemory(t *testing.T) { // P2.1, rule 3
	o := &wire.Out{}
	o.Text("abc")
	first, second := o.Bytes(), o.Bytes()
	clear(first)
	_ = append(first, 9, 9, 9, 9)
	checkBytes(t, "the second answer", second, []byte{3, 'a', 'b', 'c'})
	o.Num(5)
	o.Num(6)
	checkBytes(t, "the Out", o.Bytes(), []byte{3, 'a', 'b', 'c', 5, 6})
	checkBytes(t, "the second answer, later", second, []byte{3, 'a', 'b', 'c'})
}

func TestOutsAreTheirOwn(t *testing.T) { // P2.1, rule 5
	a, b := &wire.Out{}, &wire.Out{}
	a.Num(1)
	b.Num(2)
	a.Num(3)
	checkBytes(t, "a", a.Bytes(), []byte{1, 3})
	checkBytes(t, "b", b.Bytes(), []byte{2})
}

func TestNilOut(t *testing.T) { // P2.1, rule 6
	var o *wire.Out
	for range 2 {
		o.Num(1)
		o.Int(-1)
		o.Text("ab")
		o.Flag(true)
		o.Flag(false)
		o.Digest(rising())
		if len(o.Bytes()) != 0 {
			t.Errorf("a nil Out: % x", o.Bytes())
		}
	}
}

func TestTextAtItsLimit(t *testing.T) { // P2.2
	long := strings.Repeat("y", 200)
	b := made(func(o *wire.Out) { o.Text(long) })
	for _, most := range []int{200, 201, math.MaxInt} {
		i := wire.Read(b)
		if got := i.Text(most); got != long || !i.End() {
			t.Errorf("Text(%d): %q, Err %d", most, got, i.Err())
		}
	}
	for _, most := range []int{199, 1, 0, -1, math.MinInt} {
		i := wire.Read(b)
		if got := i.Text(most); got != "" || i.Err() != api.ErrLong || i.Left() != 0 {
			t.Errorf("Text(%d): %q, Err %d, Left %d", most, got, i.Err(), i.Left())
		}
	}
	for _, most := range []int{0, -1, math.MinInt} {
		i := wire.Read([]byte{0})
		if got := i.Text(most); got != "" || !i.End() {
			t.Errorf("Text(%d) of no bytes: Err %d", most, i.Err())
		}
	}
}

// The kinds of a field, as a reader asks for them; what is answered is told as whether it is zero.
type asking struct {
	name string
	ask  func(i *wire.In) bool
}

func askings() []asking {
	return []asking{
		{"Num", func(i *wire.In) bool { return i.Num() == 0 }},
		{"Int", func(i *wire.In) bool { return i.Int() == 0 }},
		{"Text", func(i *wire.In) bool { return i.Text(1000) == "" }},
		{"Text(0)", func(i *wire.In) bool { return i.Text(0) == "" }},
		{"Text(-1)", func(i *wire.In) bool { return i.Text(-1) == "" }},
		{"Flag", func(i *wire.In) bool { return !i.Flag() }},
		{"Digest", func(i *wire.In) bool { return i.Digest() == api.Digest{} }},
	}
}

// checkWrong: a field is wrong, and then all that is asked is zero.
func checkWrong(t *testing.T, what string, b []byte, ask func(i *wire.In) bool, want api.Errno) {
	t.Helper()
	i := wire.Read(b)
	if !ask(i) || i.Err() != want || i.Left() != 0 || i.End() {
		t.Errorf("%s of % x: Err %d, want %d; Left %d, End %v", what, b, i.Err(), want, i.Left(), i.End())
	}
	for range 2 {
		for _, a := range askings() {
			if !a.ask(i) || i.Err() != want || i.Left() != 0 || i.End() {
				t.Errorf("%s behind %s of % x: Err %d, want %d; Left %d, End %v", a.name, what, b, i.Err(), want, i.Left(), i.End())
			}
		}
	}
}

func TestBytesThatEndWithinAField(t *testing.T) { // P2.2
	d := rising()
	for _, r := range []struct {
		what string
		ask  func(i *wire.In) bool
		b    []byte
	}{
		{"Num", func(i *wire.In) bool { return i.Num() == 0 }, numbers()[math.MaxUint64]},
		{"Num", func(i *wire.In) bool { return i.Num() == 0 }, numbers()[300]},
		{"Int", func(i *wire.In) bool { return i.Int() == 0 }, signed()[math.MinInt64]},
		{"Text", func(i *wire.In) bool { return i.Text(1000) == "" }, append([]byte{130, 1}, strings.Repeat("z", 130)...)},
		{"Text(2)", func(i *wire.In) bool { return i.Text(2) == "" }, []byte{2, 'a', 'b'}},
		{"Flag", func(i *wire.In) bool { return !i.Flag() }, []byte{1}},
		{"Digest", func(i *wire.In) bool { return i.Digest() == api.Digest{} }, d[:]},
	} {
		for n := range len(r.b) {
			checkWrong(t, r.what, r.b[:n], r.ask, api.ErrShort)
		}
		i := wire.Read(r.b)
		if r.ask(i) || !i.End() {
			t.Errorf("%s of % x: not read, Err %d", r.what, r.b, i.Err())
		}
	}
	for _, a := range askings() {
		checkWrong(t, a.name, nil, a.ask, api.ErrShort)
		checkWrong(t, a.name, []byte{}, a.ask, api.ErrShort)
	}
}

func TestNumbersOfOtherForms(t *testing.T) { // P2.2
	full := bytes.Repeat([]byte{255}, 9)
	zeros := bytes.Repeat([]byte{128}, 9)
	for _, b := range [][]byte{
		{0x80, 0},
		{0xac, 0x82, 0},
		{0xff, 0x80, 0},
		{0x80, 0x80, 0},
		append(bytes.Clone(zeros), 0),
		append(bytes.Clone(full), 0),
		append(bytes.Clone(full), 2),
		append(bytes.Clone(zeros), 2),
		append(bytes.Clone(zeros), 3),
		append(bytes.Clone(full), 127),
		append(bytes.Clone(full), 128),
		append(bytes.Clone(full), 129),
		append(bytes.Clone(zeros), 129),
		append(bytes.Clone(full), 255),
		append(bytes.Clone(zeros), 128, 128, 1),
	} {
		for _, a := range askings()[:5] {
			// Told at the first byte that is wrong, whether or not there are more.
			checkWrong(t, a.name, b, a.ask, api.ErrForm)
			checkWrong(t, a.name, append(bytes.Clone(b), make([]byte, 100)...), a.ask, api.ErrForm)
		}
	}
}

func TestFlagsOfOtherBytes(t *testing.T) { // P2.2
	for v := 2; v < 256; v++ {
		checkWrong(t, "Flag", []byte{byte(v), 1, 1}, func(i *wire.In) bool { return !i.Flag() }, api.ErrForm)
	}
}

func TestTextsAboveTheirLimit(t *testing.T) { // P2.2
	text := func(most int) func(i *wire.In) bool {
		return func(i *wire.In) bool { return i.Text(most) == "" }
	}
	for _, r := range []struct {
		b    []byte
		most int
		want api.Errno
	}{
		{[]byte{2, 'a', 'b'}, 1, api.ErrLong},
		{[]byte{2, 'a'}, 1, api.ErrLong},
		{[]byte{2}, 1, api.ErrLong},
		{[]byte{2, 'a'}, 2, api.ErrShort},
		{[]byte{1, 'a'}, 0, api.ErrLong},
		{[]byte{1, 'a'}, -1, api.ErrLong},
		{[]byte{1}, math.MinInt, api.ErrLong},
		{numbers()[math.MaxUint64], 100, api.ErrLong},
		{numbers()[math.MaxUint64], math.MaxInt, api.ErrLong},
		{numbers()[1<<63], math.MaxInt, api.ErrLong},
		{numbers()[1<<63-1], math.MaxInt, api.ErrShort},
		{numbers()[1<<63-1], math.MaxInt - 1, api.ErrLong},
		{[]byte{0x82}, 0, api.ErrShort},
		{[]byte{0x82, 0}, 0, api.ErrForm},
	} {
		checkWrong(t, "Text", r.b, text(r.most), r.want)
	}
}

func TestWhatIsWrongFirstStays(t *testing.T) { // P2.2, P2.3
	i := wire.Read([]byte{5, 2, 1, 1, 1, 1})
	if i.Num() != 5 || i.Left() != 5 || i.Err() != api.OK {
		t.Fatal("the first field isn't read")
	}
	if i.Flag() || i.Err() != api.ErrForm || i.Left() != 0 {
		t.Errorf("a flag of 2: Err %d, Left %d", i.Err(), i.Left())
	}
	if i.Text(-1) != "" || i.Digest() != (api.Digest{}) || i.Err() != api.ErrForm || i.End() {
		t.Errorf("later: Err %d, End %v", i.Err(), i.End())
	}
}

func TestReadOfNothing(t *testing.T) { // P2.2, P2.3
	for _, b := range [][]byte{nil, {}} {
		i := wire.Read(b)
		if i == nil || !i.End() || i.Left() != 0 || i.Err() != api.OK {
			t.Error("no bytes: not at the end at once")
		}
	}
}

func TestAskingForTheEndChangesNothing(t *testing.T) { // P2.3
	i := wire.Read([]byte{7, 8})
	for range 3 {
		if i.Left() != 2 || i.End() || i.Err() != api.OK {
			t.Error("asking changed something")
		}
	}
	if i.Num() != 7 || i.Num() != 8 || !i.End() || !i.End() || i.Left() != 0 {
		t.Error("the fields aren't read as they stand")
	}
}

func TestNilIn(t *testing.T) { // P2.2, P2.3, rule 6
	var i *wire.In
	for range 2 {
		for _, a := range askings() {
			if !a.ask(i) {
				t.Errorf("%s of a nil In isn't zero", a.name)
			}
		}
		if i.Err() != api.OK || i.Left() != 0 || i.End() {
			t.Errorf("a nil In: Err %d, Left %d, End %v", i.Err(), i.Left(), i.End())
		}
	}
}

func TestReadKeepsACopy(t *testing.T) { // P2.2, rule 3
	d := rising()
	whole := made(func(o *wire.Out) { o.Num(300); o.Text("ab"); o.Digest(d); o.Flag(true) })
	b := bytes.Clone(whole)
	i := wire.Read(b)
	clear(b)
	if i.Num() != 300 || i.Text(9) != "ab" {
		t.Error("written over behind Read, and read otherwise")
	}
	for k := range b {
		b[k] = 0xee
	}
	if i.Digest() != d || !i.Flag() || !i.End() {
		t.Error("written over between two fields, and read otherwise")
	}
}

func TestReadingChangesNothingHandedIn(t *testing.T) { // rule 3
	d := rising()
	fields := made(func(o *wire.Out) { o.Num(300); o.Text("ab"); o.Digest(d); o.Flag(true) })
	whole := append(append([]byte{9, 9}, fields...), 9, 9, 9)
	before := bytes.Clone(whole)
	i := wire.Read(whole[2 : 2+len(fields)])
	if i.Num() != 300 || i.Text(9) != "ab" || i.Digest() != d || !i.Flag() || !i.End() {
		t.Error("not read as it was")
	}
	checkBytes(t, "what was handed in, and the room round it", whole, before)
}

func TestTwoReadersOfTheSameBytes(t *testing.T) { // P2.2, rule 5
	b := []byte{1, 2, 3}
	one, two := wire.Read(b), wire.Read(b)
	if one.Num() != 1 || one.Num() != 2 || two.Num() != 1 || one.Num() != 3 || two.Left() != 2 || !one.End() {
		t.Error("one reader moves another")
	}
}

// FuzzIn: whatever bytes come, a reader ends; what was read without a fault is, written, the bytes that were passed.
func FuzzIn(f *testing.F) {
	f.Add([]byte{0xac, 2, 1, 2, 'a', 'b', 1}, []byte{0, 1, 2, 3})
	f.Add([]byte{0x80, 0}, []byte{0})
	f.Add(bytes.Repeat([]byte{0x81}, 40), []byte{4, 0})
	f.Fuzz(func(t *testing.T, b, asked []byte) {
		i, o := wire.Read(b), &wire.Out{}
		for _, kind := range asked {
			before := o.Bytes()
			switch kind % 5 {
			case 0:
				o.Num(i.Num())
			case 1:
				o.Int(i.Int())
			case 2:
				o.Text(i.Text(20))
			case 3:
				o.Flag(i.Flag())
			case 4:
				o.Digest(i.Digest())
			}
			if i.Err() != api.OK {
				if i.Left() != 0 || !bytes.HasPrefix(b, before) {
					t.Errorf("% x: Left %d, read before: % x", b, i.Left(), before)
				}
				return
			}
			if !bytes.Equal(o.Bytes(), b[:len(b)-i.Left()]) {
				t.Errorf("% x: Left %d, but read: % x", b, i.Left(), o.Bytes())
			}
		}
	})
}
