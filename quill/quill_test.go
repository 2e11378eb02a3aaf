package quill_test

import (
	"bytes"
	"math"
	"math/big"
	"math/rand/v2"
	"strings"
	"testing"

	"curfew/api"
	"curfew/quill"
)

// encoded builds the encoding of a number, or of a string's length, from the chapter's text, by other means than the package.
func encoded(n uint64) []byte {
	b := new(big.Int).SetUint64(n).Bytes()
	return append([]byte{byte(len(b))}, b...)
}

func encodedInt(n int64) []byte {
	if n >= 0 {
		return encoded(uint64(n))
	}
	v := new(big.Int).Sub(big.NewInt(-1), big.NewInt(n))
	b := encoded(v.Uint64())
	b[0] += 128
	return b
}

// edges returns the numbers around each one at which the encoding's length changes.
func edges() []uint64 {
	l := []uint64{0, 1, 2, 127, 128, 300, math.MaxInt64 - 1, math.MaxInt64, math.MaxInt64 + 1, math.MaxUint64 - 1, math.MaxUint64}
	for i := 1; i < 8; i++ {
		n := uint64(1) << (8 * i)
		l = append(l, n-1, n, n+1, n|n>>8, n<<7)
	}
	return l
}

func written(f func(w *quill.Writer)) []byte {
	var w quill.Writer
	f(&w)
	return w.Bytes()
}

// P1.1, and the chapter's example.
func TestExamplesAreWritten(t *testing.T) {
	for _, x := range []struct {
		write func(w *quill.Writer)
		want  string
	}{
		{func(w *quill.Writer) { w.Num(0) }, "\x00"},
		{func(w *quill.Writer) { w.Num(300) }, "\x02\x01\x2c"},
		{func(w *quill.Writer) { w.Int(0) }, "\x00"},
		{func(w *quill.Writer) { w.Int(300) }, "\x02\x01\x2c"},
		{func(w *quill.Writer) { w.Int(-1) }, "\x80"},
		{func(w *quill.Writer) { w.Int(-2) }, "\x81\x01"},
		{func(w *quill.Writer) { w.Int(-300) }, "\x82\x01\x2b"},
		{func(w *quill.Writer) { w.Int(math.MaxInt64) }, "\x08\x7f\xff\xff\xff\xff\xff\xff\xff"},
		{func(w *quill.Writer) { w.Int(math.MinInt64) }, "\x88\x7f\xff\xff\xff\xff\xff\xff\xff"},
		{func(w *quill.Writer) { w.Num(math.MaxUint64) }, "\x08\xff\xff\xff\xff\xff\xff\xff\xff"},
		{func(w *quill.Writer) { w.Text("ab") }, "\x01\x02ab"},
		{func(w *quill.Writer) { w.Text("") }, "\x00"},
		{func(w *quill.Writer) { w.Text(strings.Repeat("x", 300)) }, "\x02\x01\x2c" + strings.Repeat("x", 300)},
		{func(w *quill.Writer) { w.Text("\x00\xff\xc3") }, "\x01\x03\x00\xff\xc3"},
		{func(w *quill.Writer) { w.Flag(true) }, "\x01\x01"},
		{func(w *quill.Writer) { w.Flag(false) }, "\x00"},
		{func(w *quill.Writer) { w.Raw([]byte("\x00ab\xff")) }, "\x00ab\xff"},
	} {
		if got := string(written(x.write)); got != x.want {
			t.Errorf("got %x, want %x", got, x.want)
		}
	}
}

// P1.1
func TestEdgesAreWritten(t *testing.T) {
	for _, n := range edges() {
		if got := written(func(w *quill.Writer) { w.Num(n) }); !bytes.Equal(got, encoded(n)) {
			t.Errorf("Num(%d): %x", n, got)
		}
		for _, i := range []int64{int64(n), -int64(n), ^int64(n)} {
			if got := written(func(w *quill.Writer) { w.Int(i) }); !bytes.Equal(got, encodedInt(i)) {
				t.Errorf("Int(%d): %x", i, got)
			}
		}
	}
}

// P1.1: lists are written as their elements are, one behind the other, and empty ones not at all.
func TestListsAreConcatenated(t *testing.T) {
	got := written(func(w *quill.Writer) {
		w.Num()
		w.Int()
		w.Flag()
		w.Raw(nil)
		w.Num(1, 0, 300)
		w.Int(-1, 7, -300)
		w.Flag(true, false, true)
		w.Raw([]byte("xy"))
		w.Text("z")
	})
	want := "\x01\x01\x00\x02\x01\x2c" + "\x80\x01\x07\x82\x01\x2b" + "\x01\x01\x00\x01\x01" + "xy" + "\x01\x01z"
	if string(got) != want {
		t.Errorf("got %x, want %x", got, want)
	}
}

// P1.1
func TestLenCountsTheBytes(t *testing.T) {
	var w quill.Writer
	if w.Len() != 0 || len(w.Bytes()) != 0 {
		t.Error("a plain Writer is not empty")
	}
	for _, n := range edges() {
		before := w.Len()
		w.Num(n)
		if w.Len() != before+len(encoded(n)) || w.Len() != len(w.Bytes()) {
			t.Errorf("after %d: Len %d, %d bytes", n, w.Len(), len(w.Bytes()))
		}
	}
}

// P1.1
func TestBytesAreInNewMemory(t *testing.T) {
	var w quill.Writer
	w.Text("abc")
	first, second := w.Bytes(), w.Bytes()
	for i := range first {
		first[i] = 0xee
	}
	_ = append(first, "spoilt"...)
	w.Text("d")
	if string(second) != "\x01\x03abc" || string(w.Bytes()) != "\x01\x03abc\x01\x01d" {
		t.Errorf("%x, %x", second, w.Bytes())
	}
}

// P1.1 and general rule 4: arguments are left alone, and what is written stays as it was.
func TestWriterKeepsApartFromArguments(t *testing.T) {
	back := []byte("abcdef")
	nums, ints, flags := []uint64{1, 2}, []int64{-1, 2}, []bool{true, false}
	var w quill.Writer
	w.Raw(back[:3])
	w.Num(nums...)
	w.Int(ints...)
	w.Flag(flags...)
	if string(back) != "abcdef" || nums[0] != 1 || nums[1] != 2 || ints[0] != -1 || ints[1] != 2 || !flags[0] || flags[1] {
		t.Error("an argument was changed")
	}
	back[0] = 'x'
	if string(w.Bytes()[:3]) != "abc" {
		t.Errorf("%q", w.Bytes()[:3])
	}
}

// P1.1
func TestWritersAreApart(t *testing.T) {
	var a, b quill.Writer
	a.Num(1)
	b.Num(2)
	if string(a.Bytes()) != "\x01\x01" || string(b.Bytes()) != "\x01\x02" {
		t.Errorf("%x, %x", a.Bytes(), b.Bytes())
	}
}

// P1.1
func TestNilWriter(t *testing.T) {
	var w *quill.Writer
	w.Num(1, 2)
	w.Int(-1)
	w.Flag(true)
	w.Text("ab")
	w.Raw([]byte("ab"))
	if w.Len() != 0 || w.Bytes() != nil {
		t.Errorf("%d, %x", w.Len(), w.Bytes())
	}
}

// reading is one of a Reader's ways to read; it reports whether the result is the one that a bad Reader returns.
type reading struct {
	name string
	zero func(r *quill.Reader) bool
}

func readings() []reading {
	return []reading{
		{"Num", func(r *quill.Reader) bool { return r.Num(math.MaxUint64) == 0 }},
		{"Int", func(r *quill.Reader) bool { return r.Int() == 0 }},
		{"Flag", func(r *quill.Reader) bool { return !r.Flag() }},
		{"Text", func(r *quill.Reader) bool { return r.Text(math.MaxInt) == "" }},
		{"Raw", func(r *quill.Reader) bool { return r.Raw(1) == nil }},
		{"Raw of none", func(r *quill.Reader) bool { return len(r.Raw(0)) == 0 }},
	}
}

// wantBad checks that a Reader is bad in all that it tells, and stays so.
func wantBad(t *testing.T, what string, r *quill.Reader) {
	t.Helper()
	for range 2 {
		if !r.Bad() || r.Left() != 0 || r.End() != api.ErrForm {
			t.Errorf("%s: Bad %v, Left %d, End %d", what, r.Bad(), r.Left(), r.End())
		}
		for _, x := range readings() {
			if !x.zero(r) {
				t.Errorf("%s: %s reads something", what, x.name)
			}
		}
	}
}

// P1.2
func TestReaderReadsInOrder(t *testing.T) {
	b := []byte("\x02\x01\x2c" + "\x82\x01\x2b" + "\x01\x01" + "\x00" + "\x01\x02ab" + "raw" + "\x00")
	r := quill.Open(b)
	left := func(want int) {
		t.Helper()
		if r.Left() != want || r.Bad() || r.End() != api.ErrForm {
			t.Errorf("Left %d, want %d; Bad %v, End %d", r.Left(), want, r.Bad(), r.End())
		}
	}
	left(len(b))
	if n := r.Num(300); n != 300 {
		t.Error(n)
	}
	left(len(b) - 3)
	if n := r.Int(); n != -300 {
		t.Error(n)
	}
	left(len(b) - 6)
	if !r.Flag() || r.Flag() {
		t.Error("flags")
	}
	left(len(b) - 9)
	if s := r.Text(2); s != "ab" {
		t.Error(s)
	}
	left(len(b) - 13)
	if s := r.Raw(3); string(s) != "raw" {
		t.Error(s)
	}
	left(1)
	if n := r.Num(0); n != 0 {
		t.Error(n)
	}
	if r.Left() != 0 || r.Bad() || r.End() != api.OK {
		t.Errorf("Left %d, Bad %v, End %d", r.Left(), r.Bad(), r.End())
	}
}

// P1.2: the greatest allowed number is read, the next one is not.
func TestNumIsAtMostMost(t *testing.T) {
	for _, n := range edges() {
		b := append(encoded(n), 7)
		r := quill.Open(b)
		if got := r.Num(n); got != n || r.Bad() || r.Left() != 1 {
			t.Errorf("Num(%d): %d", n, got)
		}
		r = quill.Open(b)
		if got := r.Num(math.MaxUint64); got != n || r.Bad() {
			t.Errorf("%d: %d", n, got)
		}
		if n == 0 {
			continue
		}
		r = quill.Open(b)
		if got := r.Num(n - 1); got != 0 {
			t.Errorf("Num(%d): %d", n-1, got)
		}
		wantBad(t, "above most", r)
	}
}

// P1.2: bytes that are no number's encoding.
func TestNumbersHaveOneForm(t *testing.T) {
	for _, s := range []string{
		"",
		"\x01",         // ends too early
		"\x02\x01",     // likewise
		"\x01\x00",     // 0 has no bytes
		"\x02\x00\x01", // not as few as possible
		"\x08\x00\xff\xff\xff\xff\xff\xff\xff",
		"\x08\xff\xff\xff\xff\xff\xff\xff",
		"\x09\x01\x01\x01\x01\x01\x01\x01\x01\x01",
		"\x09\x00\x01\x01\x01\x01\x01\x01\x01\x01",
		"\x7f" + strings.Repeat("\x01", 200),
		"\x81",
		"\x81\x00",
		"\x82\x00\x01",
		"\x89\x01\x01\x01\x01\x01\x01\x01\x01\x01",
		"\xff" + strings.Repeat("\x01", 200),
	} {
		r := quill.Open([]byte(s))
		if n := r.Num(math.MaxUint64); n != 0 {
			t.Errorf("%x: Num %d", s, n)
		}
		wantBad(t, "Num", r)
		r = quill.Open([]byte(s))
		if n := r.Int(); n != 0 {
			t.Errorf("%x: Int %d", s, n)
		}
		wantBad(t, "Int", r)
	}
}

// P1.2: a number below 0 is no number, flag or length.
func TestNegativeNumbersAreSigned(t *testing.T) {
	for _, n := range []int64{-1, -2, -3, -300, math.MinInt64} {
		b := append(encodedInt(n), "abcd"...)
		r := quill.Open(b)
		if got := r.Num(math.MaxUint64); got != 0 {
			t.Errorf("%d: Num %d", n, got)
		}
		wantBad(t, "Num", r)
		r = quill.Open(b)
		if r.Flag() {
			t.Errorf("%d: Flag", n)
		}
		wantBad(t, "Flag", r)
		r = quill.Open(b)
		if got := r.Text(math.MaxInt); got != "" {
			t.Errorf("%d: Text %q", n, got)
		}
		wantBad(t, "Text", r)
	}
}

// P1.2
func TestIntReadsItsRange(t *testing.T) {
	for _, n := range edges() {
		for _, i := range []int64{int64(n), -int64(n), ^int64(n)} {
			r := quill.Open(encodedInt(i))
			if got := r.Int(); got != i || r.End() != api.OK {
				t.Errorf("%d: %d, End %d", i, got, r.End())
			}
		}
	}
	for _, s := range []string{
		"\x08\x80\x00\x00\x00\x00\x00\x00\x00",
		"\x08\xff\xff\xff\xff\xff\xff\xff\xff",
		"\x88\x80\x00\x00\x00\x00\x00\x00\x00",
		"\x88\xff\xff\xff\xff\xff\xff\xff\xff",
	} {
		r := quill.Open([]byte(s + "x"))
		if n := r.Int(); n != 0 {
			t.Errorf("%x: %d", s, n)
		}
		wantBad(t, "beyond the range", r)
	}
}

// P1.2
func TestFlagIsAtMostOne(t *testing.T) {
	for _, s := range []string{"", "\x01\x02", "\x01\xff", "\x02\x01\x00", "\x01\x00", "\x01"} {
		r := quill.Open([]byte(s))
		if r.Flag() {
			t.Errorf("%x: true", s)
		}
		wantBad(t, "Flag", r)
	}
}

// P1.2
func TestTextIsAtMostMost(t *testing.T) {
	for _, n := range []int{0, 1, 2, 255, 256, 300} {
		s := strings.Repeat("\xfe", n)
		b := append(encoded(uint64(n)), s+"x"...)
		for _, most := range []int{n, n + 1, math.MaxInt} {
			r := quill.Open(b)
			if got := r.Text(most); got != s || r.Bad() || r.Left() != 1 {
				t.Errorf("Text(%d) of %d bytes: %q", most, n, got)
			}
		}
		for _, most := range []int{n - 1, -1, math.MinInt} {
			r := quill.Open(b)
			if got := r.Text(most); got != "" {
				t.Errorf("Text(%d) of %d bytes: %q", most, n, got)
			}
			wantBad(t, "above most", r)
		}
	}
}

// P1.2: strings that end too early, or whose length is no number.
func TestBrokenTexts(t *testing.T) {
	for _, s := range []string{
		"", "\x01", "\x01\x01", "\x01\x03ab", "\x01\x00", "\x02\x00\x01a",
		"\x08\x7f\xff\xff\xff\xff\xff\xff\xffabc",
		"\x08\x80\x00\x00\x00\x00\x00\x00\x00abc",
		"\x08\xff\xff\xff\xff\xff\xff\xff\xffabc",
	} {
		r := quill.Open([]byte(s))
		if got := r.Text(math.MaxInt); got != "" {
			t.Errorf("%x: %q", s, got)
		}
		wantBad(t, "Text", r)
	}
}

// P1.2
func TestRaw(t *testing.T) {
	for _, n := range []int{-1, math.MinInt, 4, math.MaxInt} {
		r := quill.Open([]byte("abc"))
		if b := r.Raw(n); b != nil {
			t.Errorf("Raw(%d): %q", n, b)
		}
		wantBad(t, "Raw", r)
	}
	r := quill.Open([]byte("abc"))
	if len(r.Raw(0)) != 0 || r.Bad() || r.Left() != 3 {
		t.Error("Raw(0) of something")
	}
	if b := r.Raw(3); string(b) != "abc" || r.End() != api.OK {
		t.Errorf("%q, End %d", b, r.End())
	}
	if len(r.Raw(0)) != 0 || r.Bad() || r.End() != api.OK {
		t.Error("Raw(0) at the end")
	}
}

// P1.2: what Raw returns is apart from the Reader and from what was opened.
func TestRawIsInNewMemory(t *testing.T) {
	from := []byte("abcdef")
	r := quill.Open(from)
	b := r.Raw(2)
	_ = append(b, "spoilt"...)
	b[0] = 'x'
	if string(from) != "abcdef" {
		t.Errorf("the argument is %q", from)
	}
	c := r.Raw(2)
	from[2] = 'y'
	if string(c) != "cd" || string(r.Raw(2)) != "ef" {
		t.Errorf("%q", c)
	}
}

// P1.2: reading leaves the bytes as they are, and does not go beyond their length.
func TestReaderStaysWithinItsBytes(t *testing.T) {
	from := []byte("\x01\x02ab")
	r := quill.Open(from[:3])
	if s := r.Text(9); s != "" {
		t.Errorf("%q", s)
	}
	wantBad(t, "Text", r)
	r = quill.Open(from)
	if s := r.Text(9); s != "ab" || string(from) != "\x01\x02ab" {
		t.Errorf("%q, %x", s, from)
	}
}

// A Reader reads what it was opened with, whatever becomes of that memory.
func TestReaderKeepsNoArgument(t *testing.T) {
	from := []byte("abcd")
	r := quill.Open(from)
	copy(from, "wxyz")
	if b := r.Raw(4); string(b) != "abcd" {
		t.Errorf("%q", b)
	}
}

// P1.2
func TestFail(t *testing.T) {
	r := quill.Open([]byte("\x00\x01\x01"))
	r.Fail()
	wantBad(t, "Fail", r)
	r.Fail()
	wantBad(t, "Fail twice", r)
	r = quill.Open(nil)
	r.Fail()
	wantBad(t, "Fail without bytes", r)
}

// P1.2: every way to read makes a Reader without bytes bad, except reading no bytes.
func TestEmptyReaders(t *testing.T) {
	for _, open := range []func() *quill.Reader{
		func() *quill.Reader { return &quill.Reader{} },
		func() *quill.Reader { return quill.Open(nil) },
		func() *quill.Reader { return quill.Open([]byte{}) },
	} {
		r := open()
		if r == nil {
			t.Fatal("no Reader")
		}
		if r.Left() != 0 || r.Bad() || r.End() != api.OK {
			t.Errorf("Left %d, Bad %v, End %d", r.Left(), r.Bad(), r.End())
		}
		for _, x := range readings()[:5] {
			r := open()
			if !x.zero(r) {
				t.Errorf("%s reads something", x.name)
			}
			wantBad(t, x.name, r)
		}
	}
}

// P1.2
func TestNilReader(t *testing.T) {
	var r *quill.Reader
	for range 2 {
		for _, x := range readings() {
			if !x.zero(r) {
				t.Errorf("%s reads something", x.name)
			}
		}
		if r.Text(-1) != "" || r.Raw(-1) != nil || r.Raw(0) != nil {
			t.Error("something is read")
		}
		if r.Left() != 0 || r.Bad() || r.End() != api.ErrNil {
			t.Errorf("Left %d, Bad %v, End %d", r.Left(), r.Bad(), r.End())
		}
		r.Fail()
	}
}

// P1.3: what was written is read as it was, in many orders of kinds.
func TestReadAsWritten(t *testing.T) {
	random := rand.New(rand.NewPCG(1, 3))
	for range 2000 {
		var w quill.Writer
		var checks []func(r *quill.Reader) bool
		for range random.IntN(8) {
			n := random.Uint64() >> random.IntN(65)
			i := int64(random.Uint64()) >> random.IntN(64)
			b := make([]byte, random.IntN(300))
			for j := range b {
				b[j] = byte(random.Uint32())
			}
			switch random.IntN(5) {
			case 0:
				w.Num(n)
				checks = append(checks, func(r *quill.Reader) bool { return r.Num(n) == n })
			case 1:
				w.Int(i)
				checks = append(checks, func(r *quill.Reader) bool { return r.Int() == i })
			case 2:
				w.Flag(n%2 == 0)
				checks = append(checks, func(r *quill.Reader) bool { return r.Flag() == (n%2 == 0) })
			case 3:
				w.Text(string(b))
				checks = append(checks, func(r *quill.Reader) bool { return r.Text(len(b)) == string(b) })
			default:
				w.Raw(b)
				checks = append(checks, func(r *quill.Reader) bool { return bytes.Equal(r.Raw(len(b)), b) })
			}
		}
		r := quill.Open(w.Bytes())
		for _, check := range checks {
			if !check(r) || r.Bad() {
				t.Fatalf("not read as written: %x", w.Bytes())
			}
		}
		if r.End() != api.OK {
			t.Fatalf("%x: End %d", w.Bytes(), r.End())
		}
	}
}

// checkOneForm checks that the bytes that a number was read from are exactly its encoding.
func checkOneForm(t *testing.T, b []byte) {
	t.Helper()
	r := quill.Open(b)
	if n := r.Num(math.MaxUint64); !r.Bad() && !bytes.Equal(b[:len(b)-r.Left()], encoded(n)) {
		t.Errorf("%x: read as %d", b, n)
	}
	r = quill.Open(b)
	if n := r.Int(); !r.Bad() && !bytes.Equal(b[:len(b)-r.Left()], encodedInt(n)) {
		t.Errorf("%x: read as signed %d", b, n)
	}
	r = quill.Open(b)
	if s := r.Text(math.MaxInt); !r.Bad() && !bytes.Equal(b[:len(b)-r.Left()], append(encoded(uint64(len(s))), s...)) {
		t.Errorf("%x: read as %q", b, s)
	}
	r = quill.Open(b)
	if f := r.Flag(); !r.Bad() && !bytes.Equal(b[:len(b)-r.Left()], written(func(w *quill.Writer) { w.Flag(f) })) {
		t.Errorf("%x: read as %v", b, f)
	}
}

// P1.3: of all short rows of bytes.
func TestReadBytesAreTheEncoding(t *testing.T) {
	checkOneForm(t, nil)
	for a := range 256 {
		checkOneForm(t, []byte{byte(a)})
		for b := range 256 {
			checkOneForm(t, []byte{byte(a), byte(b)})
			for _, c := range []byte{0, 1, 2, 0x7f, 0x80, 0xff} {
				checkOneForm(t, []byte{byte(a), byte(b), c})
			}
		}
		for _, c := range []byte{0, 1, 0x7f, 0x80, 0xff} {
			checkOneForm(t, append([]byte{byte(a), c}, "\xff\xff\xff\xff\xff\xff\xff\xff"...))
		}
	}
}

// P1.2 and P1.3 for arbitrary bytes: no call panics, and what is read is the encoding.
func FuzzRead(f *testing.F) {
	for _, n := range edges() {
		f.Add(encoded(n))
		f.Add(encodedInt(int64(n)))
	}
	f.Add([]byte("\x01\x02ab"))
	f.Fuzz(func(t *testing.T, b []byte) { checkOneForm(t, b) })
}
