package segment_test

import (
	"bytes"
	"math"
	"math/rand/v2"
	"slices"
	"strings"
	"testing"

	"curfew/api"
	"curfew/frame"
	"curfew/quill"
	"curfew/segment"
)

// entry returns a sound one.
func entry(term uint64, kind int, data string) api.Entry {
	return api.Entry{Term: term, Kind: kind, Data: []byte(data)}
}

// sound returns entries with each bound.
func sound() []api.Entry {
	return []api.Entry{
		entry(1, api.EntNoop, ""), entry(1, api.EntCommand, "a"), entry(300, api.EntMembers, "abc"), entry(api.MaxIndex-1, api.EntCommand, "\x00\xff"), entry(api.MaxIndex, api.EntMembers, strings.Repeat("x", 300)),
		{Term: 7, Kind: api.EntNoop}, {Term: 7, Kind: api.EntCommand, Data: make([]byte, api.MaxData-1)}, {Term: 7, Kind: api.EntCommand, Data: bytes.Repeat([]byte{0xfe}, api.MaxData)},
	}
}

// unsound returns entries that no log has.
func unsound() []api.Entry {
	return []api.Entry{
		{}, entry(0, api.EntNoop, ""), entry(api.MaxIndex+1, api.EntNoop, ""), entry(math.MaxUint64, api.EntNoop, ""),
		entry(1, 0, ""), entry(1, -1, ""), entry(1, api.EntMembers+1, ""), entry(1, math.MinInt, ""), entry(1, math.MaxInt, ""), entry(1, 257, ""),
		{Term: 1, Kind: api.EntCommand, Data: make([]byte, api.MaxData+1)}, {Term: 1, Kind: api.EntCommand, Data: make([]byte, api.MaxText+1)},
	}
}

// wrap returns a frame that must exist.
func wrap(t testing.TB, kind byte, body []byte) []byte {
	t.Helper()
	b, e := frame.Wrap(kind, body)
	if e != api.OK {
		t.Fatalf("Wrap: error %d", int(e))
	}
	return b
}

// lined returns the frame of an entry with any numbers, as the chapter describes it.
func lined(t testing.TB, index, term, kind uint64, data []byte) []byte {
	t.Helper()
	var w quill.Writer
	w.Num(index, term, kind)
	w.Text(string(data))
	return wrap(t, 2, w.Bytes())
}

// headed returns the frame with an index, as the chapter describes it.
func headed(t testing.TB, first uint64) []byte {
	t.Helper()
	var w quill.Writer
	w.Num(first)
	return wrap(t, 1, w.Bytes())
}

// whole returns the frames of a segment, as the chapter describes them.
func whole(t testing.TB, first uint64, l []api.Entry) [][]byte {
	t.Helper()
	all := [][]byte{headed(t, first)}
	for i, e := range l {
		all = append(all, lined(t, first+uint64(i), e.Term, uint64(e.Kind), e.Data))
	}
	return all
}

// equal compares entries as the chapter does, without the package's own Same.
func equal(a, b []api.Entry) bool {
	if len(a) != len(b) {
		return false
	}
	for i := range a {
		if a[i].Term != b[i].Term || a[i].Kind != b[i].Kind || string(a[i].Data) != string(b[i].Data) {
			return false
		}
	}
	return true
}

// wantRead checks what is read of bytes.
func wantRead(t *testing.T, what string, b []byte, first uint64, l []api.Entry, good int) {
	t.Helper()
	before := bytes.Clone(b)
	gotFirst, got, n := segment.Read(b)
	if gotFirst != first || !equal(got, l) || n != good {
		t.Errorf("%s: first %d, %d entries, %d bytes, want %d, %d, %d", what, gotFirst, len(got), n, first, len(l), good)
	}
	if !bytes.Equal(b, before) {
		t.Errorf("%s: the argument was changed", what)
	}
}

// wantNone checks that bytes do not begin with a segment.
func wantNone(t *testing.T, what string, b []byte) {
	t.Helper()
	wantRead(t, what, b, 0, nil, 0)
	if _, l, _ := segment.Read(b); l != nil {
		t.Errorf("%s: a list", what)
	}
}

// P24.3: the chapter's example.
func TestExample(t *testing.T) {
	if got := segment.Name(300); got != "L00000000000012c" {
		t.Errorf("%q", got)
	}
	if first, ok := segment.First("L00000000000012c"); first != 300 || !ok {
		t.Errorf("%d, %t", first, ok)
	}
}

// P24.1
func TestSound(t *testing.T) {
	for i, e := range sound() {
		if !segment.Sound(e) {
			t.Errorf("entry %d is not sound", i)
		}
	}
	for i, e := range unsound() {
		if segment.Sound(e) {
			t.Errorf("entry %d is sound", i)
		}
	}
}

// P24.1: equal in each field, with nil and empty data alike.
func TestSame(t *testing.T) {
	a := []api.Entry{entry(1, 1, ""), entry(2, 2, "ab"), entry(3, 3, "abc")}
	for i, b := range [][]api.Entry{
		{entry(1, 1, ""), entry(2, 2, "ab"), entry(3, 3, "abc")},
		{{Term: 1, Kind: 1}, entry(2, 2, "ab"), {Term: 3, Kind: 3, Data: []byte("abcd")[:3]}},
	} {
		if !segment.Same(a, b) || !segment.Same(b, a) {
			t.Errorf("list %d differs", i)
		}
	}
	for i, b := range [][]api.Entry{
		nil, a[:2], a[1:], append(slices.Clone(a), entry(1, 1, "")), {a[1], a[0], a[2]},
		{entry(2, 1, ""), a[1], a[2]}, {entry(1, 2, ""), a[1], a[2]}, {entry(1, 1, "x"), a[1], a[2]}, {a[0], a[1], entry(3, 3, "abd")}, {a[0], a[1], entry(3, 3, "ab")}, {a[0], a[1], entry(3, 3, "abcd")}, {a[0], a[1], entry(4, 3, "abc")}, {a[0], a[1], entry(3, 1, "abc")},
	} {
		if segment.Same(a, b) || segment.Same(b, a) {
			t.Errorf("list %d is the same", i)
		}
	}
	if !segment.Same(nil, []api.Entry{}) || !segment.Same(nil, nil) || !segment.Same(unsound(), unsound()) {
		t.Error("equal lists differ")
	}
}

// P24.1
func TestCopy(t *testing.T) {
	if len(segment.Copy(nil)) != 0 || len(segment.Copy([]api.Entry{})) != 0 {
		t.Error("something of nothing")
	}
	for _, l := range [][]api.Entry{sound(), unsound()} {
		other := segment.Copy(l)
		if !equal(l, other) {
			t.Fatal("the copy differs")
		}
		before := segment.Copy(l)
		for i := range other {
			if len(other[i].Data) > 0 {
				other[i].Data[0] ^= 1
			}
			_ = append(other[i].Data, 1)
			other[i].Term++
		}
		_ = append(other[:0], other[1:]...)
		if !equal(l, before) {
			t.Error("a change of the copy changed the list")
		}
	}
	room := []api.Entry{{Term: 1, Kind: 1, Data: []byte("abcd")[:2]}, entry(2, 2, "x")}
	other := segment.Copy(room[:1])
	_ = append(other, entry(9, 3, "y"))
	_ = append(other[0].Data, "yy"...)
	if !equal(room, []api.Entry{entry(1, 1, "ab"), entry(2, 2, "x")}) || string(room[0].Data[:4]) != "abcd" {
		t.Error("a change of the copy changed what is behind the list")
	}
}

// P24.1: encodings by hand.
func TestHeadAndLine(t *testing.T) {
	for _, x := range []struct {
		first uint64
		body  string
	}{{0, "\x00"}, {1, "\x01\x01"}, {300, "\x02\x01\x2c"}, {api.MaxIndex, "\x08\x10\x00\x00\x00\x00\x00\x00\x00"}, {math.MaxUint64, "\x08\xff\xff\xff\xff\xff\xff\xff\xff"}} {
		if got := segment.Head(x.first); !bytes.Equal(got, wrap(t, 1, []byte(x.body))) {
			t.Errorf("Head(%d): %x", x.first, got)
		}
	}
	for _, x := range []struct {
		index uint64
		e     api.Entry
		body  string
	}{
		{1, entry(1, api.EntNoop, ""), "\x01\x01\x01\x01\x01\x01\x00"},
		{300, entry(2, api.EntCommand, "ab"), "\x02\x01\x2c\x01\x02\x01\x02\x01\x02ab"},
		{0, entry(256, api.EntMembers, "\x00"), "\x00\x02\x01\x00\x01\x03\x01\x01\x00"},
		{math.MaxUint64, entry(api.MaxIndex, api.EntMembers, ""), "\x08\xff\xff\xff\xff\xff\xff\xff\xff\x08\x10\x00\x00\x00\x00\x00\x00\x00\x01\x03\x00"},
	} {
		if got, e := segment.Line(x.index, x.e); e != api.OK || !bytes.Equal(got, wrap(t, 2, []byte(x.body))) {
			t.Errorf("Line(%d): %x, error %d", x.index, got, int(e))
		}
	}
	for i, e := range sound() {
		before := segment.Copy([]api.Entry{e})
		for _, index := range []uint64{0, 1, 300, api.MaxIndex, api.MaxIndex + 1} {
			got, why := segment.Line(index, e)
			if why != api.OK || !bytes.Equal(got, lined(t, index, e.Term, uint64(e.Kind), e.Data)) {
				t.Errorf("entry %d at %d: error %d", i, index, int(why))
			}
		}
		if !equal(before, []api.Entry{e}) {
			t.Errorf("entry %d was changed", i)
		}
	}
	for i, e := range unsound() {
		for _, index := range []uint64{0, 1, math.MaxUint64} {
			if got, why := segment.Line(index, e); got != nil || why != api.ErrArg {
				t.Errorf("entry %d at %d: %d bytes, error %d", i, index, len(got), int(why))
			}
		}
	}
}

// P24.1: what is returned is apart.
func TestHeadAndLineAreApart(t *testing.T) {
	for _, f := range []func() []byte{
		func() []byte { return segment.Head(300) },
		func() []byte { b, _ := segment.Line(300, entry(1, 2, "ab")); return b },
	} {
		want := bytes.Clone(f())
		b := f()
		b[0] = 0
		_ = append(b[:1], b...)
		if !bytes.Equal(f(), want) {
			t.Errorf("%x, was %x", f(), want)
		}
	}
}

// P24.2: the first index is from 1 to MaxIndex; the others follow it, wherever that is.
func TestReadFirst(t *testing.T) {
	l := []api.Entry{entry(1, api.EntNoop, ""), entry(2, api.EntCommand, "ab")}
	for _, first := range []uint64{1, 2, 255, 256, 300, 1<<59 - 1, api.MaxIndex - 1, api.MaxIndex} {
		for n := range 3 {
			b := slices.Concat(whole(t, first, l[:n])...)
			wantRead(t, "a segment", b, first, l[:n], len(b))
			wantRead(t, "a segment and more", append(b, "and more"...), first, l[:n], len(b))
		}
	}
	for _, first := range []uint64{0, api.MaxIndex + 1, 1 << 63, math.MaxUint64, math.MaxUint64 - 1} {
		wantNone(t, "another first index", slices.Concat(whole(t, first, l)...))
	}
}

// P24.2: each sound entry, each number of them.
func TestReadEntries(t *testing.T) {
	all := sound()
	for n := range len(all) + 1 {
		b := slices.Concat(whole(t, 254, all[:n])...)
		wantRead(t, "entries", b, 254, all[:n], len(b))
	}
	many := slices.Repeat(all[:5], 200)
	b := slices.Concat(whole(t, 1, many)...)
	wantRead(t, "many entries", b, 1, many, len(b))
}

// P24.2: bytes that do not begin with a segment.
func TestReadNothing(t *testing.T) {
	line := lined(t, 5, 1, 1, nil)
	for i, b := range [][]byte{
		nil, {}, {0}, []byte("abc"), headed(t, 5)[:8], headed(t, 5)[1:], slices.Concat([]byte{0}, headed(t, 5)), line, slices.Concat(line, headed(t, 5)),
		wrap(t, 2, []byte("\x01\x05")), wrap(t, 3, []byte("\x01\x05")), wrap(t, 255, []byte("\x01\x05")), wrap(t, 1, nil), wrap(t, 1, []byte("\x01")), wrap(t, 1, []byte("\x01\x05\x00")), wrap(t, 1, []byte("\x02\x00\x05")), wrap(t, 1, []byte("\x81\x05")), wrap(t, 1, []byte("\x05")),
	} {
		wantNone(t, "bytes alone", b)
		if i > 1 {
			wantNone(t, "bytes and a line", slices.Concat(b, line))
		}
	}
}

// P24.2: a segment ends before a frame that is not the line of a sound entry with the next index.
func TestReadEnd(t *testing.T) {
	l := []api.Entry{entry(1, api.EntNoop, ""), entry(2, api.EntCommand, "ab")}
	b := slices.Concat(whole(t, 5, l)...)
	good := lined(t, 7, 1, 1, []byte("x"))
	_, body, _ := frame.Whole(good)
	ends := [][]byte{
		lined(t, 6, 1, 1, nil), lined(t, 8, 1, 1, nil), lined(t, 0, 1, 1, nil), lined(t, 5, 1, 1, nil), lined(t, 7+256, 1, 1, nil), lined(t, math.MaxUint64, 1, 1, nil),
		lined(t, 7, 0, 1, nil), lined(t, 7, api.MaxIndex+1, 1, nil), lined(t, 7, math.MaxUint64, 1, nil), lined(t, 7, 1, 0, nil), lined(t, 7, 1, 4, nil), lined(t, 7, 1, 1<<32+1, nil), lined(t, 7, 1, math.MaxUint64, nil),
		lined(t, 7, 1, 1, make([]byte, api.MaxData+1)), lined(t, 7, 1, 1, make([]byte, api.MaxText-20)),
		headed(t, 7), headed(t, 5), wrap(t, 1, body), wrap(t, 3, body), wrap(t, 255, body), wrap(t, 2, nil), wrap(t, 2, body[:len(body)-1]), wrap(t, 2, append(bytes.Clone(body), 0)), wrap(t, 2, []byte("\x02\x00\x07\x01\x01\x01\x01\x00")), wrap(t, 2, []byte("\x81\x07\x01\x01\x01\x01\x00")),
		good[:len(good)-1], good[1:], {0}, {0x66},
	}
	for i, end := range ends {
		// What follows is not read either.
		wantRead(t, "an end", slices.Concat(b, end), 5, l, len(b))
		wantRead(t, "an end in between", slices.Concat(b, end, good), 5, l, len(b))
		if t.Failed() {
			t.Fatalf("end %d", i)
		}
	}
	wantRead(t, "none of these ends", slices.Concat(b, good), 5, append(l, entry(1, 1, "x")), len(b)+len(good))
}

// P24.2: what is read is apart from the bytes, and the entries from each other.
func TestReadIsApart(t *testing.T) {
	l := []api.Entry{entry(1, 2, "abc"), entry(1, 2, ""), entry(2, 2, "def")}
	b := slices.Concat(whole(t, 5, l)...)
	before := bytes.Clone(b)
	_, got, _ := segment.Read(b)
	for i := range got {
		_ = append(got[i].Data, "spoilt"...)
	}
	if !equal(got, l) {
		t.Error("a change of one entry changed another one")
	}
	got[0].Data[0] = '!'
	if !bytes.Equal(b, before) {
		t.Error("a change of an entry changed the bytes")
	}
	_, got, _ = segment.Read(b)
	clear(b)
	if !equal(got, l) {
		t.Error("a change of the bytes changed an entry")
	}
	if _, l, n := segment.Read(before[:len(before)-1]); len(l) != 2 || n >= len(before)-1 {
		t.Error("read beyond the length of the bytes")
	}
}

// P24.3
func TestName(t *testing.T) {
	for _, x := range []struct {
		first uint64
		name  string
	}{
		{1, "L000000000000001"}, {9, "L000000000000009"}, {10, "L00000000000000a"}, {15, "L00000000000000f"}, {16, "L000000000000010"}, {0x123456789abcdef, "L123456789abcdef"}, {1 << 59, "L800000000000000"}, {1<<60 - 2, "Lffffffffffffffe"}, {1<<60 - 1, "Lfffffffffffffff"},
	} {
		if got := segment.Name(x.first); got != x.name || len(got) > api.MaxName {
			t.Errorf("Name(%d): %q, want %q", x.first, got, x.name)
		}
		if got, ok := segment.First(x.name); got != x.first || !ok {
			t.Errorf("First(%q): %d, %t", x.name, got, ok)
		}
	}
	for _, first := range []uint64{0, 1 << 60, 1<<60 + 1, 1<<60 + 300, 1 << 63, math.MaxUint64} {
		if got := segment.Name(first); got != "" {
			t.Errorf("Name(%d): %q", first, got)
		}
	}
}

// P24.3
func TestFirstOfOtherNames(t *testing.T) {
	for _, name := range []string{
		"", "L", "0", "L0", "L12c", "L000000000000000", "L00000000000012", "L0000000000000012c", "L1000000000000000", "L00000000000012C", "l00000000000012c", "M00000000000012c", "000000000000012c", "LL0000000000012c", "L00000000000012g", "L00000000000012 ",
		"L 0000000000012c", "L+0000000000012c", "L-0000000000012c", "L0x000000000012c", "L0_000000000012c", "L00000000000012c ", " L00000000000012c", "L00000000000012c\x00", "L\xff0000000000012c", "vow", "snap", "snap.new", "L" + strings.Repeat("f", 16), "L" + strings.Repeat("f", 300), "L" + strings.Repeat("0", 300) + "1", "L0000000000000\u0661",
	} {
		if got, ok := segment.First(name); got != 0 || ok {
			t.Errorf("First(%q): %d, %t", name, got, ok)
		}
	}
}

// P24.3: names are in the order of their indices, and each is that of one index.
func TestNamesAreOrdered(t *testing.T) {
	random := rand.New(rand.NewPCG(24, 3))
	var l []uint64
	for range 2000 {
		l = append(l, 1+random.Uint64N(1<<60-1)>>random.IntN(60))
	}
	slices.Sort(l)
	before := ""
	for _, first := range slices.Compact(l) {
		name := segment.Name(first)
		if got, ok := segment.First(name); name <= before || got != first || !ok {
			t.Fatalf("%d: %q after %q, then %d, %t", first, name, before, got, ok)
		}
		before = name
	}
}

// log returns any entries.
func log(random *rand.Rand) []api.Entry {
	var l []api.Entry
	for range random.IntN(6) {
		data := make([]byte, random.IntN(40))
		for i := range data {
			data[i] = byte(random.Uint32())
		}
		l = append(l, api.Entry{Term: 1 + random.Uint64N(api.MaxIndex)>>random.IntN(60), Kind: 1 + random.IntN(3), Data: data})
	}
	return l
}

// P24.4: what is encoded is decoded as it was; of a segment that is truncated anywhere, all entries before that.
func TestReadAsWritten(t *testing.T) {
	random := rand.New(rand.NewPCG(24, 4))
	for range 300 {
		l, first := log(random), 1+random.Uint64N(api.MaxIndex)>>random.IntN(60)
		b := segment.Head(first)
		ends := []int{len(b)}
		for i, e := range l {
			line, why := segment.Line(first+uint64(i), e)
			if why != api.OK {
				t.Fatalf("error %d", int(why))
			}
			b = append(b, line...)
			ends = append(ends, len(b))
		}
		for n := range len(b) + 1 {
			n := len(b) - n
			there := 0
			for there < len(ends) && ends[there] <= n {
				there++
			}
			if there == 0 {
				wantNone(t, "truncated", b[:n])
			} else {
				wantRead(t, "truncated", b[:n], first, l[:there-1], ends[there-1])
			}
		}
		if t.Failed() {
			return
		}
	}
}

// P24.4: if bits are changed within 24 consecutive ones, all entries before that are read.
func TestReadChanged(t *testing.T) {
	random := rand.New(rand.NewPCG(24, 24))
	for range 3000 {
		l := log(random)
		frames := whole(t, 5, l)
		b := slices.Concat(frames...)
		at := random.IntN(8*len(b) - 23)
		if random.IntN(3) == 0 {
			at = 8*len(b) - 24
		}
		turn := 1 + random.Uint32N(1<<24-1)
		lowest := len(b)
		for i := range 24 {
			if turn>>i&1 == 1 {
				b[(at+i)/8] ^= 0x80 >> ((at + i) % 8)
				lowest = min(lowest, (at+i)/8)
			}
		}
		end, there := 0, 0
		for there < len(frames) && end+len(frames[there]) <= lowest {
			end += len(frames[there])
			there++
		}
		if there == 0 {
			wantNone(t, "changed", b)
		} else {
			wantRead(t, "changed", b, 5, l[:there-1], end)
		}
		if t.Failed() {
			return
		}
	}
}

// checkRead checks of any bytes that what is read is a segment, and the longest one.
func checkRead(t *testing.T, b []byte) {
	t.Helper()
	first, l, good := segment.Read(b)
	if good == 0 {
		kind, body, _, e := frame.Take(b)
		r := quill.Open(body)
		n := r.Num(math.MaxUint64)
		if first != 0 || l != nil || e == api.OK && kind == 1 && r.End() == api.OK && n >= 1 && n <= api.MaxIndex {
			t.Fatalf("%x: not read, first %d, %d entries", b, first, len(l))
		}
		return
	}
	for _, e := range l {
		if !segment.Sound(e) {
			t.Fatalf("%x: %v is not sound", b, e)
		}
	}
	if good > len(b) || first < 1 || first > api.MaxIndex || !bytes.Equal(slices.Concat(whole(t, first, l)...), b[:good]) {
		t.Fatalf("%x: first %d, %d entries, %d bytes", b, first, len(l), good)
	}
	kind, body, _, e := frame.Take(b[good:])
	r := quill.Open(body)
	index, term, what, data := r.Num(math.MaxUint64), r.Num(math.MaxUint64), r.Num(math.MaxUint64), r.Text(math.MaxInt)
	if e == api.OK && kind == 2 && r.End() == api.OK && index == first+uint64(len(l)) && what <= 3 && segment.Sound(entry(term, int(what), data)) {
		t.Fatalf("%x: an entry at %d was not read", b, good)
	}
}

// P24.2: rows of frames, some of which are changed.
func TestAnyFrames(t *testing.T) {
	random := rand.New(rand.NewPCG(24, 2))
	broken := 0
	for range 3000 {
		var b []byte
		index := random.Uint64N(4)
		b = append(b, headed(t, index)...)
		for range random.IntN(6) {
			term, kind := random.Uint64N(20), random.Uint64N(20)%5
			if random.IntN(3) > 0 {
				term, kind = 1, 1
			}
			b = append(b, lined(t, index, term, kind, []byte("data")[:random.IntN(5)])...)
			index++
			if random.IntN(12) == 0 {
				index += random.Uint64N(3) - 1
			}
		}
		if random.IntN(3) == 0 {
			b[random.IntN(len(b))]++
		}
		checkRead(t, b)
		if _, _, good := segment.Read(b); good < len(b) {
			broken++
		}
	}
	if broken < 500 || broken > 2500 {
		t.Errorf("%d of 3000 are broken", broken)
	}
}

// P24.2, P24.3, P24.4 for arbitrary bytes, which are also the bodies of frames: no call panics.
func FuzzRead(f *testing.F) {
	f.Add([]byte("\x01\x05"), []byte("\x01\x05\x01\x01\x01\x01\x00"))
	f.Add(segment.Head(5), []byte("L00000000000012c"))
	f.Fuzz(func(t *testing.T, a, b []byte) {
		checkRead(t, a)
		checkRead(t, b)
		if len(a) <= api.MaxText && len(b) <= api.MaxText {
			checkRead(t, slices.Concat(wrap(t, 1, a), wrap(t, 2, b), a))
		}
		if first, ok := segment.First(string(b)); ok && (len(b) != 16 || segment.Name(first) != string(b)) || !ok && first != 0 {
			t.Fatalf("First(%q): %d", b, first)
		}
	})
}
