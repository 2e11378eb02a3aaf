package wal_test

import (
	"bytes"
	"math"
	"slices"
	"testing"

	"curfew/api"
	"curfew/disk"
	"curfew/segment"
	"curfew/wal"
)

// highest is the greatest index that an entry can get.
const highest = api.MaxIndex / 2

// entries returns n entries that differ from each other.
func entries(n int) []api.Entry {
	var l []api.Entry
	for i := range n {
		l = append(l, api.Entry{Term: uint64(1 + i/2), Kind: 1 + i%3, Data: bytes.Repeat([]byte{byte('a' + i)}, i)})
	}
	return l
}

// sized returns an entry with so many bytes of data.
func sized(n int) api.Entry {
	return api.Entry{Term: 3, Kind: api.EntCommand, Data: bytes.Repeat([]byte("x"), n)}
}

// lines returns the lines of entries.
func lines(index uint64, l ...api.Entry) string {
	var all []byte
	for i, e := range l {
		b, why := segment.Line(index+uint64(i), e)
		if why != api.OK {
			panic("an entry that is not sound")
		}
		all = append(all, b...)
	}
	return string(all)
}

// part returns a segment.
func part(first uint64, l ...api.Entry) string {
	return string(segment.Head(first)) + lines(first, l...)
}

// file returns a file with these bytes.
func file(name, kept, loose string) disk.File {
	return disk.File{Name: name, Kept: []byte(kept), Loose: []byte(loose)}
}

// kept and loose return the file of a segment.
func kept(first uint64, b string) disk.File { return file(segment.Name(first), b, "") }

func loose(first uint64, b string) disk.File { return file(segment.Name(first), "", b) }

// ok checks that a call returned OK.
func ok(t testing.TB, what string, e api.Errno) {
	t.Helper()
	if e != api.OK {
		t.Fatalf("%s: error %d", what, int(e))
	}
}

// with returns a disk with these files.
func with(t testing.TB, files ...disk.File) *disk.Disk {
	t.Helper()
	d := disk.New(api.MaxRoom)
	for _, f := range files {
		ok(t, "Append", d.Append(f.Name, f.Kept))
		if len(f.Kept) > 0 {
			ok(t, "Sync", d.Sync(f.Name))
		}
		ok(t, "Append", d.Append(f.Name, f.Loose))
	}
	return d
}

// open returns the log of a disk that must have one.
func open(t testing.TB, d *disk.Disk, base uint64) *wal.Log {
	t.Helper()
	l, e := wal.Open(d, base)
	ok(t, "Open", e)
	return l
}

func equalFiles(a, b []disk.File) bool {
	return slices.EqualFunc(a, b, func(x, y disk.File) bool {
		return x.Name == y.Name && bytes.Equal(x.Kept, y.Kept) && bytes.Equal(x.Loose, y.Loose)
	})
}

// wantFiles compares all files of a disk.
func wantFiles(t *testing.T, what string, d *disk.Disk, want ...disk.File) {
	t.Helper()
	got := d.Files()
	if equalFiles(got, want) {
		return
	}
	t.Errorf("%s: %d files, want %d", what, len(got), len(want))
	for _, f := range got {
		t.Logf("got %q: %q, %q", f.Name, f.Kept, f.Loose)
	}
	for _, f := range want {
		t.Logf("want %q: %q, %q", f.Name, f.Kept, f.Loose)
	}
}

// wantLog compares all that a log tells.
func wantLog(t *testing.T, what string, l *wal.Log, first, safe uint64, want []api.Entry) {
	t.Helper()
	last := first + uint64(len(want)) - 1
	if l.First() != first || l.Last() != last || l.Safe() != safe {
		t.Errorf("%s: First %d, Last %d, Safe %d, want %d, %d, %d", what, l.First(), l.Last(), l.Safe(), first, last, safe)
		return
	}
	if got := l.From(0, math.MaxInt); !segment.Same(got, want) {
		t.Errorf("%s: %+v, want %+v", what, got, want)
	}
	for i, e := range want {
		got, there := l.At(first + uint64(i))
		if !there || !segment.Same([]api.Entry{got}, []api.Entry{e}) {
			t.Errorf("%s: At(%d): %+v, %t, want %+v", what, first+uint64(i), got, there, e)
		}
	}
	for _, index := range []uint64{0, first - 1, last + 1, math.MaxUint64} {
		got, there := l.At(index)
		if there || got.Term != 0 || got.Kind != 0 || got.Data != nil {
			t.Errorf("%s: At(%d): %+v, %t", what, index, got, there)
		}
	}
}

// rejected makes a call that must return an error, and change neither the log nor the disk.
func rejected(t *testing.T, what string, l *wal.Log, d *disk.Disk, want api.Errno, f func() api.Errno) {
	t.Helper()
	first, safe, all, files, steps := l.First(), l.Safe(), l.From(0, math.MaxInt), d.Files(), d.Steps()
	if got := f(); got != want {
		t.Errorf("%s: error %d, want %d", what, int(got), int(want))
	}
	wantLog(t, what, l, first, safe, all)
	wantFiles(t, what, d, files...)
	if d.Steps() != steps {
		t.Errorf("%s: %d steps", what, d.Steps()-steps)
	}
}

// wantSteps makes a call that must return OK after so many steps of the disk.
func wantSteps(t *testing.T, what string, d *disk.Disk, want uint64, f func() api.Errno) {
	t.Helper()
	before := d.Steps()
	ok(t, what, f())
	if got := d.Steps() - before; got != want {
		t.Errorf("%s: %d steps, want %d", what, got, want)
	}
}

// The chapter's example; P25.4.
func TestExample(t *testing.T) {
	d, l := disk.New(api.MaxRoom), entries(3)
	g := open(t, d, 0)
	ok(t, "Append", g.Append(l[:2]...))
	ok(t, "Sync", g.Sync())
	ok(t, "Append", g.Append(l[2]))
	ok(t, "Crash", d.Crash())
	ok(t, "Boot", d.Boot())
	wantLog(t, "reopened", open(t, d, 0), 1, 2, l[:2])
}

// P25.1
func TestOpenErrors(t *testing.T) {
	down := with(t, kept(1, part(1, entries(2)...)))
	ok(t, "Crash", down.Crash())
	up := with(t, kept(1, part(1, entries(2)...)))
	for _, x := range []struct {
		what string
		d    *disk.Disk
		base uint64
		want api.Errno
	}{
		{"nil", nil, 0, api.ErrNil},
		{"nil", nil, math.MaxUint64, api.ErrNil},
		{"plain", &disk.Disk{}, 0, api.ErrNil},
		{"plain", &disk.Disk{}, highest, api.ErrNil},
		{"down", down, 0, api.ErrDown},
		{"down", down, highest, api.ErrDown},
		{"base", up, highest, api.ErrArg},
		{"base", up, highest + 1, api.ErrArg},
		{"base", up, api.MaxIndex, api.ErrArg},
		{"base", up, math.MaxUint64, api.ErrArg},
	} {
		files, steps := x.d.Files(), x.d.Steps()
		l, e := wal.Open(x.d, x.base)
		if l != nil || e != x.want {
			t.Errorf("%s, %d: %v, error %d, want %d", x.what, x.base, l, int(e), int(x.want))
		}
		wantFiles(t, x.what, x.d, files...)
		if x.d.Steps() != steps {
			t.Errorf("%s: a step", x.what)
		}
	}
	wantLog(t, "the greatest base", open(t, up, highest-1), highest, highest-1, nil)
}

// P25.1: only files with segment names are read, and others are left alone.
func TestOpenOtherFiles(t *testing.T) {
	l := entries(3)
	others := []disk.File{file("A", "garbage", "x"), file("L", part(1, l...), ""), file("L00000000000000A", part(10, l...), ""), file("L00000000000001", part(1, l...), ""), file("l000000000000005", "y", ""), file("snap", "", "z"), file("vow", "vow", "")}
	d := with(t, others...)
	wantSteps(t, "Open", d, 0, func() api.Errno {
		wantLog(t, "no files", open(t, d, 7), 8, 7, nil)
		return api.OK
	})
	wantFiles(t, "no files", d, others...)
	g := open(t, d, 4)
	ok(t, "Append", g.Append(l...))
	wantLog(t, "reopened", open(t, d, 5), 5, 7, l)
	wantFiles(t, "a file", d, slices.Insert(slices.Clone(others), 2, kept(5, part(5, l...)))...)
	ok(t, "Reset", open(t, d, 4).Reset(100))
	wantFiles(t, "Reset", d, others...)
}

// A found disk is opened with a base; then it has other files, after so many steps, and a log.
type found struct {
	what        string
	files       []disk.File
	base        uint64
	want        []disk.File
	steps       uint64
	first, last uint64
}

// list returns files, for short.
func list(l ...disk.File) []disk.File { return l }

// readable returns disks that have a log of the entries l, of which the first one has the index 1.
func readable(l []api.Entry) []found {
	one, two, three := part(1, l[:3]...), part(4, l[3:5]...), part(6, l[5:]...)
	all := list(kept(1, one), kept(4, two), kept(6, three))
	torn := lines(8, sized(40))[:20]
	return []found{
		{"a file", list(kept(1, one)), 0, list(kept(1, one)), 1, 1, 3},
		{"a base in between", list(kept(1, one)), 1, list(kept(1, one)), 1, 1, 3},
		{"a base that is Last", list(kept(1, one)), 3, list(kept(1, one)), 1, 1, 3},
		{"a base above Last", list(kept(1, one)), 4, nil, 2, 5, 4},
		{"a base far above Last", list(kept(1, one)), highest - 1, nil, 2, highest, highest - 1},
		{"loose bytes", list(loose(1, one)), 0, list(kept(1, one)), 1, 1, 3},
		{"some loose bytes", list(file(segment.Name(1), one[:30], one[30:])), 0, list(kept(1, one)), 1, 1, 3},
		{"files", all, 0, all, 1, 1, 7},
		{"files and a base", all, 7, all, 1, 1, 7},
		{"files and a base above Last", all, 8, nil, 4, 9, 8},
		{"loose files, of which only the last one is synced", list(loose(1, one), loose(4, two), loose(6, three)), 0, list(loose(1, one), loose(4, two), kept(6, three)), 1, 1, 7},
		{"files from a later index on", all[1:], 3, all[1:], 1, 4, 7},
		{"files from a later index on, and a base in between", all[1:], 6, all[1:], 1, 4, 7},
		{"a torn line", list(all[0], all[1], kept(6, three+torn)), 0, all, 2, 1, 7},
		{"a torn line that is loose", list(all[0], all[1], file(segment.Name(6), three, torn)), 0, all, 2, 1, 7},
		{"a byte too many", list(kept(1, one+"f")), 0, list(kept(1, one)), 2, 1, 3},
		{"a line too few bytes of which are there", list(loose(1, one[:len(one)-1])), 0, list(kept(1, part(1, l[:2]...))), 2, 1, 2},
		{"a line with another index", list(kept(1, one+lines(5, l[3]))), 0, list(kept(1, one)), 2, 1, 3},
		{"a torn line and a base above Last", list(all[0], all[1], kept(6, three+torn)), 8, nil, 5, 9, 8},
		{"a head alone", list(kept(1, part(1))), 0, list(kept(1, part(1))), 1, 1, 0},
		{"a head alone that is loose", list(loose(1, part(1))), 0, list(kept(1, part(1))), 1, 1, 0},
		{"a head alone with a base", list(kept(9, part(9))), 8, list(kept(9, part(9))), 1, 9, 8},
		{"a head alone below the base", list(kept(9, part(9))), 9, nil, 2, 10, 9},
		{"a head and a torn line", list(kept(1, part(1)+torn)), 0, list(kept(1, part(1))), 2, 1, 0},
		{"a head after files", list(all[0], all[1], kept(6, part(6))), 0, list(all[0], all[1], kept(6, part(6))), 1, 1, 5},
		{"a head after files, and a base that is Last", list(all[0], all[1], kept(6, part(6))), 5, list(all[0], all[1], kept(6, part(6))), 1, 1, 5},
		{"a head after files, and a base above Last", list(all[0], all[1], kept(6, part(6))), 6, nil, 4, 7, 6},
		{"no segment", list(kept(1, "garbage")), 0, nil, 1, 1, 0},
		{"no bytes", list(kept(1, "")), 0, nil, 1, 1, 0},
		{"no segment, and a base below it", list(kept(9, "garbage")), 2, nil, 1, 3, 2},
		{"a torn head", list(kept(1, part(1)[:5])), 5, nil, 1, 6, 5},
		{"a line without a head", list(kept(1, lines(1, l[0]))), 0, nil, 1, 1, 0},
		{"another name", list(kept(2, one)), 0, nil, 1, 1, 0},
		{"another name, below", list(kept(1, two)), 3, nil, 1, 4, 3},
		{"no segment after files", list(all[0], all[1], loose(6, "garbage")), 0, all[:2], 2, 1, 5},
		{"no segment after a gap", list(all[0], all[1], kept(60, "garbage")), 0, all[:2], 2, 1, 5},
		{"no segment after a loose file", list(all[0], loose(4, two), kept(6, "")), 0, all[:2], 2, 1, 5},
		{"no segment after files, and a base", list(all[0], all[1], kept(6, "garbage")), 5, all[:2], 2, 1, 5},
		{"no segment after files, and a base above Last", list(all[0], all[1], kept(6, "garbage")), 6, nil, 4, 7, 6},
		{"another name after files", list(all[0], all[1], kept(7, three)), 0, all[:2], 2, 1, 5},
		{"another name after files, in between", list(all[0], all[1], kept(5, three)), 0, all[:2], 2, 1, 5},
	}
}

// P25.1: what is found, what becomes of it, and that everything is safe then.
func TestOpenFound(t *testing.T) {
	l := entries(7)
	for _, x := range readable(l) {
		d := with(t, x.files...)
		before := d.Steps()
		g := open(t, d, x.base)
		if got := d.Steps() - before; got != x.steps {
			t.Errorf("%s: %d steps, want %d", x.what, got, x.steps)
		}
		var want []api.Entry
		if x.last >= x.first {
			want = l[x.first-1 : x.last]
		}
		wantLog(t, x.what, g, x.first, x.last, want)
		wantFiles(t, x.what, d, x.want...)
		// It continues where it is.
		ok(t, x.what, g.Append(sized(3)))
		want = append(slices.Clone(want), sized(3))
		wantLog(t, x.what, g, x.first, x.last, want)
		wantLog(t, x.what, open(t, d, x.base), x.first, x.last+1, want)
	}
}

// P25.1: files that are not those of a log, with which nothing is changed.
func TestOpenForm(t *testing.T) {
	l := entries(7)
	one, two, three := part(1, l[:3]...), part(4, l[3:5]...), part(6, l[5:]...)
	torn := lines(8, sized(40))[:20]
	for _, x := range []struct {
		what  string
		files []disk.File
		base  uint64
	}{
		{"no segment first", list(kept(1, "garbage"), kept(4, two), kept(6, three)), 0},
		{"no segment in between", list(kept(1, one), kept(4, "garbage"), kept(6, three)), 0},
		{"no bytes in between", list(kept(1, one), kept(4, ""), loose(6, three)), 0},
		{"no segment twice", list(kept(1, one), kept(4, "garbage"), kept(6, "garbage")), 0},
		{"a base above a file that is no segment", list(kept(1, "garbage"), kept(4, two)), 100},
		{"a torn line first", list(kept(1, one+torn), kept(4, two), kept(6, three)), 0},
		{"a torn line in between", list(kept(1, one), kept(4, two+torn), kept(6, three+torn)), 0},
		{"a byte too many in between", list(kept(1, one), kept(4, two+"x"), loose(6, three)), 0},
		{"a torn line before what is no segment", list(kept(1, one), kept(4, two+torn), kept(6, "garbage")), 0},
		{"a line too few", list(kept(1, part(1, l[:2]...)), kept(4, two)), 0},
		{"a line too many", list(kept(1, part(1, l[:4]...)), kept(4, two)), 0},
		{"a missing file", list(kept(1, one), loose(6, three+torn)), 0},
		{"a gap of one", list(kept(1, one), kept(5, part(5, l[4:]...))), 0},
		{"a head after a gap", list(kept(1, one), kept(5, part(5))), 0},
		{"a head in between", list(kept(1, part(1)), kept(2, part(2, l[1:]...))), 0},
		{"another name first", list(kept(2, one), kept(4, two)), 0},
		{"another name in between", list(kept(1, one), kept(5, two), kept(6, three)), 0},
	} {
		d := with(t, x.files...)
		before := d.Steps()
		g, e := wal.Open(d, x.base)
		if g != nil || e != api.ErrForm {
			t.Errorf("%s: %v, error %d", x.what, g, int(e))
		}
		wantFiles(t, x.what, d, x.files...)
		if d.Steps() != before {
			t.Errorf("%s: %d steps", x.what, d.Steps()-before)
		}
	}
}

// P25.1: First above base + 1, which is an error only once the last file is mended.
func TestOpenLate(t *testing.T) {
	l := entries(7)
	two, three := part(4, l[3:5]...), part(6, l[5:]...)
	torn := lines(8, sized(40))[:20]
	mended := list(kept(4, two), kept(6, three))
	for _, x := range []struct {
		what        string
		files, left []disk.File
		base, steps uint64
	}{
		{"kept bytes", mended, mended, 2, 1},
		{"one file", list(kept(2, part(2, l[1:3]...))), list(kept(2, part(2, l[1:3]...))), 0, 1},
		{"far above", list(kept(highest, part(highest, l...))), list(kept(highest, part(highest, l...))), 0, 1},
		{"a head", list(loose(9, part(9))), list(kept(9, part(9))), 7, 1},
		{"a head and a byte", list(loose(9, part(9)+"x")), list(kept(9, part(9))), 7, 2},
		{"loose bytes", list(kept(4, two), loose(6, three)), mended, 1, 1},
		{"loose bytes in between", list(loose(4, two), loose(6, three)), list(loose(4, two), kept(6, three)), 1, 1},
		{"a torn line", list(kept(4, two), kept(6, three+torn)), mended, 1, 2},
		{"a loose torn line", list(kept(4, two), loose(6, three+torn)), mended, 1, 2},
		{"no segment last", list(kept(4, two), kept(6, "garbage")), list(kept(4, two)), 1, 2},
		{"no segment after loose bytes", list(loose(4, two), kept(6, "garbage")), list(kept(4, two)), 1, 2},
	} {
		for n := range x.steps + 1 {
			d := with(t, x.files...)
			ok(t, "Arm", d.Arm(int(n)))
			before := d.Steps()
			want := api.ErrForm
			if n < x.steps {
				want = api.ErrDown
			}
			if g, e := wal.Open(d, x.base); g != nil || e != want {
				t.Errorf("%s, %d steps: %v, error %d, want %d", x.what, n, g, int(e), int(want))
			}
			if n < x.steps {
				ok(t, "Boot", d.Boot())
				continue
			}
			wantFiles(t, x.what, d, x.left...)
			if got := d.Steps() - before; got != x.steps {
				t.Errorf("%s: %d steps, want %d", x.what, got, x.steps)
			}
		}
	}
}

// P25.1: the disk's errors, at each step.
func TestOpenWithoutPower(t *testing.T) {
	l := entries(5)
	one, two := part(1, l[:3]...), part(4, l[3:]...)
	for _, x := range []struct {
		what   string
		files  []disk.File
		base   uint64
		states [][]disk.File
	}{
		{"no segment last", list(kept(1, one), loose(4, two), loose(6, "garbage")), 9, [][]disk.File{
			list(kept(1, one), loose(4, two)), list(kept(1, one), kept(4, two)), list(kept(1, one)), nil,
		}},
		{"a torn line", list(loose(1, one), loose(4, two+"garbage")), 9, [][]disk.File{
			list(loose(1, one), loose(4, two)), list(loose(1, one), kept(4, two)), list(loose(1, one)), nil,
		}},
	} {
		for n := range len(x.states) + 1 {
			d := with(t, x.files...)
			ok(t, "Arm", d.Arm(n))
			g, e := wal.Open(d, x.base)
			if n == len(x.states) {
				ok(t, x.what, e)
				break
			}
			if g != nil || e != api.ErrDown {
				t.Errorf("%s, step %d: %v, error %d", x.what, n, g, int(e))
			}
			want := x.files
			if n > 0 {
				want = x.states[n-1]
			}
			wantFiles(t, x.what, d, want...)
			ok(t, "Boot", d.Boot())
			wantLog(t, x.what, open(t, d, x.base), 10, 9, nil)
			wantFiles(t, x.what, d)
		}
	}
}

// P25.2
func TestFrom(t *testing.T) {
	l := entries(7)
	d := with(t, kept(4, part(4, l[:3]...)), kept(7, part(7, l[3:]...)))
	g := open(t, d, 3)
	wantLog(t, "a log", g, 4, 10, l)
	for _, index := range []uint64{0, 1, 3, 4, 5, 6, 7, 9, 10, 11, 12, highest, math.MaxUint64} {
		for _, most := range []int{math.MinInt, -1, 0, 1, 2, 3, 6, 7, 8, math.MaxInt} {
			var want []api.Entry
			for i := max(index, 4); i <= 10 && len(want) < most; i++ {
				want = append(want, l[i-4])
			}
			if got := g.From(index, most); !segment.Same(got, want) {
				t.Errorf("From(%d, %d): %+v, want %+v", index, most, got, want)
			}
		}
	}
	ok(t, "Reset", g.Reset(4))
	for _, index := range []uint64{0, 4, 5, 6, math.MaxUint64} {
		if got := g.From(index, 3); len(got) != 0 {
			t.Errorf("From(%d) of an empty log: %+v", index, got)
		}
	}
}

// P25.2: what is returned is apart.
func TestResultsAreApart(t *testing.T) {
	l := entries(5)
	g := open(t, with(t, kept(1, part(1, l...))), 0)
	for range 2 {
		got := g.From(2, 3)
		for i := range got {
			got[i].Data[0] = '!'
			_ = append(got[i].Data, "spoilt"...)
			got[i].Term = 99
		}
		_ = append(got, sized(1))
		one, _ := g.At(3)
		one.Data[0] = '?'
		_ = append(one.Data, "spoilt"...)
		wantLog(t, "after changes of results", g, 1, 5, l)
	}
	ok(t, "Append", g.Append(sized(3)))
	wantLog(t, "Append", g, 1, 5, append(l, sized(3)))
}

// P25.3: arguments are neither changed nor kept.
func TestArgumentsAreApart(t *testing.T) {
	room := append(entries(5), sized(9))
	before := segment.Copy(room)
	g := open(t, disk.New(api.MaxRoom), 0)
	ok(t, "Append", g.Append(room[1:3]...))
	ok(t, "Append", g.Append(room[3:5]...))
	if !segment.Same(room, before) {
		t.Error("an argument was changed")
	}
	for i := range room {
		clear(room[i].Data)
		room[i].Term = 77
	}
	wantLog(t, "after changes of arguments", g, 1, 0, before[1:5])
}

// P25.3: each bound of an index.
func TestAppendErrors(t *testing.T) {
	unsound := []api.Entry{{}, {Term: 0, Kind: 1}, {Term: api.MaxIndex + 1, Kind: 1}, {Term: 1, Kind: 0}, {Term: 1, Kind: 4}, {Term: 1, Kind: -1}, sized(api.MaxData + 1)}
	l := entries(3)
	for _, below := range []uint64{1, 2, 3} {
		d := disk.New(api.MaxRoom)
		g := open(t, d, highest-below)
		for n := range 4 {
			if uint64(n) > below {
				rejected(t, "too many", g, d, api.ErrBig, func() api.Errno { return g.Append(l[:n]...) })
			}
		}
		for _, x := range unsound {
			for i := range 4 {
				rejected(t, "not sound", g, d, api.ErrArg, func() api.Errno { return g.Append(slices.Insert(slices.Clone(l), i, x)...) })
			}
			rejected(t, "not sound", g, d, api.ErrArg, func() api.Errno { return g.Append(x) })
		}
		rejected(t, "nothing", g, d, api.OK, func() api.Errno { return g.Append() })
		wantFiles(t, "nothing", d)
		wantSteps(t, "Append", d, 1, func() api.Errno { return g.Append(l[:below]...) })
		wantLog(t, "Append", g, highest-below+1, highest-below, l[:below])
		rejected(t, "one too many", g, d, api.ErrBig, func() api.Errno { return g.Append(l[0]) })
		rejected(t, "not sound", g, d, api.ErrArg, func() api.Errno { return g.Append(unsound[0]) })
		rejected(t, "nothing", g, d, api.OK, func() api.Errno { return g.Append() })
		wantLog(t, "reopened", open(t, d, highest-below), highest-below+1, highest, l[:below])
	}
	// A log that was written otherwise may be beyond the bound; then nothing is too much as well.
	d := with(t, kept(highest, part(highest, l...)))
	g := open(t, d, highest-1)
	wantLog(t, "beyond the bound", g, highest, highest+2, l)
	rejected(t, "nothing", g, d, api.ErrBig, func() api.Errno { return g.Append() })
	ok(t, "Cut", g.Cut(highest+1))
	rejected(t, "nothing", g, d, api.OK, func() api.Errno { return g.Append() })
}

// P25.3: a file is begun when none is open, or the open one has Roll bytes or more.
func TestAppendRolls(t *testing.T) {
	if wal.Roll != 1024 {
		t.Fatalf("Roll is %d", wal.Roll)
	}
	for _, size := range []int{wal.Roll - 2, wal.Roll - 1, wal.Roll, wal.Roll + 1, 3 * wal.Roll} {
		for _, synced := range []bool{false, true} {
			rolls(t, size, synced)
		}
	}
}

// rolls appends to a file with so many bytes, which are synced or not.
func rolls(t *testing.T, size int, synced bool) {
	t.Helper()
	d := disk.New(api.MaxRoom)
	g := open(t, d, 6)
	// The second entry's data is long enough for its length to have two bytes, as that of 300 bytes.
	one := sized(100)
	two := sized(size - len(part(7, one, sized(300))) + 300)
	old := part(7, one, two)
	if len(old) != size {
		t.Fatalf("%d bytes, not %d", len(old), size)
	}
	wantSteps(t, "the first file", d, 1, func() api.Errno { return g.Append(one) })
	wantFiles(t, "the first file", d, loose(7, part(7, one)))
	wantLog(t, "the first file", g, 7, 6, []api.Entry{one})
	wantSteps(t, "the same file", d, 1, func() api.Errno { return g.Append(two) })
	wantFiles(t, "the same file", d, loose(7, old))
	wantLog(t, "the same file", g, 7, 6, []api.Entry{one, two})
	first, safe, steps := loose(7, old), uint64(6), uint64(2)
	if synced {
		ok(t, "Sync", g.Sync())
		first, safe, steps = kept(7, old), 8, 1
	}
	l := entries(3)
	all := append([]api.Entry{one, two}, l...)
	if size < wal.Roll {
		wantSteps(t, "below Roll", d, 1, func() api.Errno { return g.Append(l...) })
		first.Loose = append(first.Loose, lines(9, l...)...)
		wantFiles(t, "below Roll", d, first)
		wantLog(t, "below Roll", g, 7, safe, all)
		return
	}
	wantSteps(t, "a new file", d, steps, func() api.Errno { return g.Append(l...) })
	wantFiles(t, "a new file", d, kept(7, old), loose(9, part(9, l...)))
	wantLog(t, "a new file", g, 7, 8, all)
	wantSteps(t, "then open", d, 1, func() api.Errno { return g.Append(two) })
	wantFiles(t, "then open", d, kept(7, old), loose(9, part(9, append(l, two)...)))
	wantLog(t, "reopened", open(t, d, 6), 7, 12, append(all, two))
}

// P25.3: the bytes of an opened file, and of one that was cut, count as well.
func TestAppendRollsAfterOpenAndCut(t *testing.T) {
	big, l := sized(wal.Roll), entries(2)
	for _, x := range []struct {
		what string
		old  []api.Entry
		from uint64
		want []disk.File
	}{
		{"opened", []api.Entry{big}, 2, list(kept(1, part(1, big)), loose(2, part(2, l...)))},
		{"opened, too small", []api.Entry{l[1]}, 2, list(file(segment.Name(1), part(1, l[1]), lines(2, l...)))},
		{"cut, still big", []api.Entry{big, l[0]}, 2, list(kept(1, part(1, big)), loose(2, part(2, l...)))},
		{"cut, too small", []api.Entry{l[1], big}, 2, list(file(segment.Name(1), part(1, l[1]), lines(2, l...)))},
	} {
		d := with(t, kept(1, part(1, x.old...)))
		g := open(t, d, 0)
		ok(t, x.what, g.Cut(x.from))
		wantSteps(t, x.what, d, 1, func() api.Errno { return g.Append(l...) })
		wantFiles(t, x.what, d, x.want...)
		wantLog(t, x.what, g, 1, 1, append(x.old[:1:1], l...))
	}
}

// P25.3: a full disk, with which the log has no new entries.
func TestAppendFull(t *testing.T) {
	d := disk.New(200)
	g := open(t, d, 0)
	rejected(t, "a new file", g, d, api.ErrFull, func() api.Errno { return g.Append(sized(200)) })
	ok(t, "Append", g.Append(sized(100)))
	rejected(t, "the same file", g, d, api.ErrFull, func() api.Errno { return g.Append(sized(100)) })
	wantSteps(t, "the same file", d, 1, func() api.Errno { return g.Append(sized(1)) })
	wantLog(t, "Append", g, 1, 0, []api.Entry{sized(100), sized(1)})

	// The bytes of the open file are synced before that.
	d = disk.New(wal.Roll + 100)
	g = open(t, d, 0)
	ok(t, "Append", g.Append(sized(wal.Roll)))
	before := d.Steps()
	if e := g.Append(sized(100)); e != api.ErrFull || d.Steps() != before+1 {
		t.Errorf("error %d, %d steps", int(e), d.Steps()-before)
	}
	wantFiles(t, "a second file", d, kept(1, part(1, sized(wal.Roll))))
	wantLog(t, "a second file", g, 1, 0, []api.Entry{sized(wal.Roll)})
	rejected(t, "a second file", g, d, api.ErrFull, func() api.Errno { return g.Append(sized(100)) })
	wantSteps(t, "Sync", d, 0, g.Sync)
	wantLog(t, "Sync", g, 1, 1, []api.Entry{sized(wal.Roll)})
	wantSteps(t, "a second file", d, 1, func() api.Errno { return g.Append(sized(10)) })
	wantLog(t, "a second file", g, 1, 1, []api.Entry{sized(wal.Roll), sized(10)})
}

// P25.3: as many files as a disk can have.
func TestAppendFiles(t *testing.T) {
	d := disk.New(api.MaxRoom)
	g := open(t, d, 0)
	var all []api.Entry
	for range api.MaxFiles {
		all = append(all, sized(wal.Roll))
		ok(t, "Append", g.Append(sized(wal.Roll)))
	}
	ok(t, "Sync", g.Sync())
	if len(d.Names()) != api.MaxFiles {
		t.Fatalf("%d files", len(d.Names()))
	}
	rejected(t, "one more", g, d, api.ErrFull, func() api.Errno { return g.Append(sized(1)) })
	wantLog(t, "all", g, 1, api.MaxFiles, all)
	ok(t, "Drop", g.Drop(1))
	ok(t, "Append", g.Append(sized(1)))
	wantLog(t, "reopened", open(t, d, 1), 2, api.MaxFiles+1, append(all[1:], sized(1)))
}

// P25.3: the power fails at each step of an Append.
func TestAppendWithoutPower(t *testing.T) {
	l := entries(3)
	big := sized(wal.Roll)
	for _, x := range []struct {
		what   string
		before []api.Entry
		base   uint64
		states [][]disk.File
	}{
		{"a first file", nil, 4, [][]disk.File{list(loose(5, part(5, l...)))}},
		{"the same file", l[:1], 4, [][]disk.File{list(loose(5, part(5, append(l[:1:1], l...)...)))}},
		{"a new file", []api.Entry{big}, 4, [][]disk.File{list(loose(5, part(5, big))), list(kept(5, part(5, big)), loose(6, part(6, l...)))}},
	} {
		for n, want := range x.states {
			d := disk.New(api.MaxRoom)
			g := open(t, d, x.base)
			ok(t, "Append", g.Append(x.before...))
			ok(t, "Arm", d.Arm(n))
			if e := g.Append(l...); e != api.ErrDown {
				t.Errorf("%s, step %d: error %d", x.what, n, int(e))
			}
			wantLog(t, x.what, g, 5, 4, x.before)
			wantFiles(t, x.what, d, want...)
			rejected(t, x.what, g, d, api.ErrDown, func() api.Errno { return g.Append(l...) })
			rejected(t, x.what, g, d, api.OK, func() api.Errno { return g.Append() })
			rejected(t, x.what, g, d, api.ErrArg, func() api.Errno { return g.Append(api.Entry{}) })
		}
	}
}

// P25.2, P25.3: Sync makes all safe, and is a step only if something is loose.
func TestSync(t *testing.T) {
	l := entries(4)
	d := disk.New(api.MaxRoom)
	g := open(t, d, 4)
	wantSteps(t, "without a file", d, 0, g.Sync)
	ok(t, "Append", g.Append(l[:2]...))
	wantLog(t, "Append", g, 5, 4, l[:2])
	wantSteps(t, "Sync", d, 1, g.Sync)
	wantLog(t, "Sync", g, 5, 6, l[:2])
	wantFiles(t, "Sync", d, kept(5, part(5, l[:2]...)))
	wantSteps(t, "once more", d, 0, g.Sync)
	ok(t, "Append", g.Append(l[2:]...))
	wantLog(t, "Append", g, 5, 6, l)
	wantFiles(t, "Append", d, file(segment.Name(5), part(5, l[:2]...), lines(7, l[2:]...)))
	wantSteps(t, "Sync", d, 1, g.Sync)
	wantLog(t, "Sync", g, 5, 8, l)
	wantFiles(t, "Sync", d, kept(5, part(5, l...)))
	wantSteps(t, "once more", d, 0, g.Sync)
	// Loose bytes of other files are not its.
	ok(t, "Append", d.Append("A", []byte("x")))
	ok(t, "Append", d.Append("z", []byte("x")))
	wantSteps(t, "others", d, 0, g.Sync)
	ok(t, "Append", g.Append(l...))
	ok(t, "Arm", d.Arm(0))
	rest := d.Files()
	if e := g.Sync(); e != api.ErrDown {
		t.Errorf("error %d", int(e))
	}
	wantLog(t, "without power", g, 5, 8, append(l[:4:4], l...))
	wantFiles(t, "without power", d, rest...)
	rejected(t, "without power", g, d, api.ErrDown, g.Sync)
}

// P25.3: after an Append at which the power failed the open file has loose bytes.
func TestSyncAfterFailedAppend(t *testing.T) {
	d := disk.New(api.MaxRoom)
	g := open(t, d, 0)
	ok(t, "Append", g.Append(entries(2)...))
	ok(t, "Sync", g.Sync())
	ok(t, "Arm", d.Arm(0))
	if e := g.Append(entries(1)...); e != api.ErrDown {
		t.Errorf("error %d", int(e))
	}
	rejected(t, "Sync", g, d, api.ErrDown, g.Sync)
}

// P25.3: without loose bytes nothing is asked of the disk, also if its power is off.
func TestWithoutPower(t *testing.T) {
	d := disk.New(api.MaxRoom)
	g := open(t, d, 0)
	ok(t, "Append", g.Append(entries(2)...))
	ok(t, "Sync", g.Sync())
	ok(t, "Crash", d.Crash())
	rejected(t, "Sync", g, d, api.OK, g.Sync)
	rejected(t, "Append", g, d, api.OK, func() api.Errno { return g.Append() })
	rejected(t, "Append", g, d, api.ErrDown, func() api.Errno { return g.Append(entries(1)...) })
	rejected(t, "Cut", g, d, api.OK, func() api.Errno { return g.Cut(3) })
	rejected(t, "Cut", g, d, api.ErrDown, func() api.Errno { return g.Cut(2) })
	rejected(t, "Cut", g, d, api.ErrDown, func() api.Errno { return g.Cut(1) })
	rejected(t, "Cut", g, d, api.ErrArg, func() api.Errno { return g.Cut(4) })
	rejected(t, "Drop", g, d, api.OK, func() api.Errno { return g.Drop(2) })
	rejected(t, "Reset", g, d, api.ErrDown, func() api.Errno { return g.Reset(0) })
	rejected(t, "Reset", g, d, api.ErrArg, func() api.Errno { return g.Reset(highest) })
}

// three returns a disk with three files of 3, 2 and 2 entries from index 4 on, its log, and the entries.
func three(t testing.TB) (*disk.Disk, *wal.Log, []api.Entry) {
	t.Helper()
	l := entries(7)
	d := with(t, file("A", "x", ""), kept(4, part(4, l[:3]...)), kept(7, part(7, l[3:5]...)), kept(9, part(9, l[5:]...)), file("z", "", "y"))
	return d, open(t, d, 3), l
}

// P25.3: at each index; the last of the files that remain is open.
func TestCut(t *testing.T) {
	l := entries(7)
	one, two, end := kept(4, part(4, l[:3]...)), kept(7, part(7, l[3:5]...)), kept(9, part(9, l[5:]...))
	a, z := file("A", "x", ""), file("z", "", "y")
	for _, x := range []struct {
		from  uint64
		steps uint64
		files []disk.File
		// after is the file to which the next entry is appended, or 0.
		after uint64
	}{
		{4, 3, nil, 0},
		{5, 3, list(kept(4, part(4, l[:1]...))), 4},
		{6, 3, list(kept(4, part(4, l[:2]...))), 4},
		{7, 2, list(one), 4},
		{8, 2, list(one, kept(7, part(7, l[3]))), 7},
		{9, 1, list(one, two), 7},
		{10, 1, list(one, two, kept(9, part(9, l[5]))), 9},
		{11, 0, list(one, two, end), 9},
	} {
		d, g, _ := three(t)
		wantSteps(t, "Cut", d, x.steps, func() api.Errno { return g.Cut(x.from) })
		wantFiles(t, "Cut", d, slices.Concat(list(a), x.files, list(z))...)
		wantLog(t, "Cut", g, 4, x.from-1, l[:x.from-4])
		rejected(t, "Cut at the end", g, d, api.OK, func() api.Errno { return g.Cut(x.from) })
		wantLog(t, "reopened", open(t, d, 3), 4, x.from-1, l[:x.from-4])
		wantSteps(t, "Append", d, 1, func() api.Errno { return g.Append(sized(9)) })
		want := slices.Clone(x.files)
		if x.after == 0 {
			want = list(loose(x.from, part(x.from, sized(9))))
		} else {
			f := &want[len(want)-1]
			*f = file(f.Name, string(f.Kept), lines(x.from, sized(9)))
		}
		wantFiles(t, "Append", d, slices.Concat(list(a), want, list(z))...)
		wantLog(t, "Append", g, 4, x.from-1, append(slices.Clone(l[:x.from-4]), sized(9)))
	}
}

// P25.3
func TestCutErrors(t *testing.T) {
	d, g, _ := three(t)
	for _, from := range []uint64{0, 1, 3, 12, 13, highest, math.MaxUint64} {
		rejected(t, "Cut", g, d, api.ErrArg, func() api.Errno { return g.Cut(from) })
	}
	d = disk.New(100)
	g = open(t, d, 3)
	for _, from := range []uint64{0, 3, 5, math.MaxUint64} {
		rejected(t, "Cut of an empty log", g, d, api.ErrArg, func() api.Errno { return g.Cut(from) })
	}
	rejected(t, "Cut of an empty log", g, d, api.OK, func() api.Errno { return g.Cut(4) })
}

// P25.3: a file without entries begins at the index of its name.
func TestCutOfHead(t *testing.T) {
	l := entries(3)
	d := with(t, kept(4, part(4, l...)), kept(7, part(7)))
	g := open(t, d, 3)
	wantSteps(t, "Cut", d, 1, func() api.Errno { return g.Cut(7) })
	wantFiles(t, "Cut", d, kept(4, part(4, l...)))
	wantLog(t, "Cut", g, 4, 6, l)
	d = with(t, kept(4, part(4)))
	g = open(t, d, 3)
	wantLog(t, "a head alone", g, 4, 3, nil)
	wantSteps(t, "Cut", d, 1, func() api.Errno { return g.Cut(4) })
	wantFiles(t, "Cut", d)
	wantLog(t, "Cut", g, 4, 3, nil)
}

// P25.2: what is cut is safe no more, nor what is appended in its place.
func TestCutAndSafe(t *testing.T) {
	l := entries(6)
	d := disk.New(api.MaxRoom)
	g := open(t, d, 0)
	ok(t, "Append", g.Append(l[:4]...))
	ok(t, "Sync", g.Sync())
	ok(t, "Append", g.Append(l[4:]...))
	wantLog(t, "Append", g, 1, 4, l)
	ok(t, "Cut", g.Cut(6))
	wantLog(t, "of what was not safe", g, 1, 4, l[:5])
	wantFiles(t, "of what was not safe", d, file(segment.Name(1), part(1, l[:4]...), lines(5, l[4])))
	ok(t, "Cut", g.Cut(5))
	wantLog(t, "up to what is safe", g, 1, 4, l[:4])
	ok(t, "Cut", g.Cut(3))
	wantLog(t, "of what is safe", g, 1, 2, l[:2])
	ok(t, "Append", g.Append(l[4:]...))
	all := append(l[:2:2], l[4:]...)
	wantLog(t, "other entries", g, 1, 2, all)
	wantFiles(t, "other entries", d, file(segment.Name(1), part(1, l[:2]...), lines(3, l[4:]...)))
	wantSteps(t, "Sync", d, 1, g.Sync)
	wantLog(t, "Sync", g, 1, 4, all)
	// Whole files as well.
	ok(t, "Append", g.Append(sized(wal.Roll)))
	ok(t, "Append", g.Append(l[:2]...))
	wantLog(t, "a new file", g, 1, 5, slices.Concat(all, []api.Entry{sized(wal.Roll)}, l[:2]))
	ok(t, "Cut", g.Cut(6))
	wantLog(t, "Cut", g, 1, 5, append(slices.Clone(all), sized(wal.Roll)))
	ok(t, "Cut", g.Cut(1))
	wantLog(t, "Cut", g, 1, 0, nil)
}

// P25.3: a file that Open did not sync is synced when it has become the open one, even for a single byte.
func TestCutToLooseFile(t *testing.T) {
	l := entries(5)
	one := part(1, l[:3]...)
	for _, n := range []int{0, 1, len(one) - 1} {
		d := with(t, file(segment.Name(1), one[:n], one[n:]), loose(4, part(4, l[3:]...)))
		g := open(t, d, 0)
		ok(t, "Cut", g.Cut(4))
		wantFiles(t, "Cut", d, file(segment.Name(1), one[:n], one[n:]))
		wantSteps(t, "Sync", d, 1, g.Sync)
		wantFiles(t, "Sync", d, kept(1, one))
		wantLog(t, "Sync", g, 1, 3, l[:3])
	}
}

// P25.3: the power fails at each step of a Cut; what is gone on the disk is gone in the log.
func TestCutWithoutPower(t *testing.T) {
	l := entries(7)
	one, two, end := kept(4, part(4, l[:3]...)), kept(7, part(7, l[3:5]...)), kept(9, part(9, l[5:]...))
	a, z := file("A", "x", ""), file("z", "", "y")
	for _, x := range []struct {
		from uint64
		last []uint64
	}{{4, []uint64{10, 8, 6, 3}}, {5, []uint64{10, 8, 6, 4}}, {7, []uint64{10, 8, 6}}, {8, []uint64{10, 8, 7}}, {10, []uint64{10, 9}}} {
		for n, last := range x.last[:len(x.last)-1] {
			d, g, _ := three(t)
			ok(t, "Arm", d.Arm(n))
			if e := g.Cut(x.from); e != api.ErrDown {
				t.Errorf("Cut(%d): error %d", x.from, int(e))
			}
			wantLog(t, "Cut", g, 4, last, l[:last-3])
			left := list(one, two, end)[:map[uint64]int{10: 3, 8: 2, 6: 1}[last]]
			wantFiles(t, "Cut", d, slices.Concat(list(a), left, list(z))...)
			ok(t, "Boot", d.Boot())
			wantSteps(t, "the rest", d, uint64(len(x.last)-1-n), func() api.Errno { return g.Cut(x.from) })
			wantLog(t, "the rest", g, 4, x.from-1, l[:x.from-4])
			wantLog(t, "reopened", open(t, d, 3), 4, x.from-1, l[:x.from-4])
		}
	}
}

// P25.3: only files whose entries are all dropped, and never the open one.
func TestDrop(t *testing.T) {
	l := entries(7)
	one, two, end := kept(4, part(4, l[:3]...)), kept(7, part(7, l[3:5]...)), kept(9, part(9, l[5:]...))
	a, z := file("A", "x", ""), file("z", "", "y")
	for upto := range uint64(11) {
		first, left := uint64(4), list(one, two, end)
		if upto >= 6 {
			first, left = 7, left[1:]
		}
		if upto >= 8 {
			first, left = 9, left[1:]
		}
		d, g, _ := three(t)
		wantSteps(t, "Drop", d, uint64(3-len(left)), func() api.Errno { return g.Drop(upto) })
		wantFiles(t, "Drop", d, slices.Concat(list(a), left, list(z))...)
		wantLog(t, "Drop", g, first, 10, l[first-4:])
		rejected(t, "once more", g, d, api.OK, func() api.Errno { return g.Drop(upto) })
		wantLog(t, "reopened", open(t, d, max(upto, 3)), first, 10, l[first-4:])
		rejected(t, "Cut below First", g, d, api.ErrArg, func() api.Errno { return g.Cut(first - 1) })
		ok(t, "Append", g.Append(sized(9)))
		wantLog(t, "Append", g, first, 10, append(slices.Clone(l[first-4:]), sized(9)))
		ok(t, "Cut", g.Cut(first+1))
		wantLog(t, "Cut", g, first, first, l[first-4:first-3])
		wantLog(t, "reopened", open(t, d, first-1), first, first, l[first-4:first-3])
	}
	d, g, _ := three(t)
	for _, upto := range []uint64{11, 12, highest, math.MaxUint64} {
		rejected(t, "Drop", g, d, api.ErrArg, func() api.Errno { return g.Drop(upto) })
	}
	d = disk.New(100)
	g = open(t, d, 3)
	for upto := range uint64(4) {
		rejected(t, "Drop of an empty log", g, d, api.OK, func() api.Errno { return g.Drop(upto) })
	}
	rejected(t, "Drop of an empty log", g, d, api.ErrArg, func() api.Errno { return g.Drop(4) })
}

// P25.3: the open file is not removed, with entries or without.
func TestDropOfHead(t *testing.T) {
	l := entries(3)
	d := with(t, kept(4, part(4, l...)), kept(7, part(7)))
	g := open(t, d, 3)
	wantSteps(t, "Drop", d, 0, func() api.Errno { return g.Drop(5) })
	wantSteps(t, "Drop", d, 1, func() api.Errno { return g.Drop(6) })
	wantFiles(t, "Drop", d, kept(7, part(7)))
	wantLog(t, "Drop", g, 7, 6, nil)
	rejected(t, "Drop", g, d, api.ErrArg, func() api.Errno { return g.Drop(7) })
	rejected(t, "Drop", g, d, api.OK, func() api.Errno { return g.Drop(6) })
	ok(t, "Append", g.Append(l...))
	wantLog(t, "Append", g, 7, 6, l)
	wantFiles(t, "Append", d, file(segment.Name(7), part(7), lines(7, l...)))
	rejected(t, "Drop", g, d, api.OK, func() api.Errno { return g.Drop(9) })
}

// P25.3: the power fails at each step of a Drop.
func TestDropWithoutPower(t *testing.T) {
	l := entries(7)
	for n, first := range []uint64{4, 7} {
		d, g, _ := three(t)
		ok(t, "Arm", d.Arm(n))
		if e := g.Drop(9); e != api.ErrDown {
			t.Errorf("error %d", int(e))
		}
		wantLog(t, "Drop", g, first, 10, l[first-4:])
		ok(t, "Boot", d.Boot())
		wantLog(t, "reopened", open(t, d, 9), first, 10, l[first-4:])
		wantSteps(t, "the rest", d, uint64(2-n), func() api.Errno { return g.Drop(9) })
		wantLog(t, "the rest", g, 9, 10, l[5:])
	}
}

// P25.3
func TestReset(t *testing.T) {
	for _, base := range []uint64{0, 1, 3, 5, 10, 11, 300, highest - 1} {
		d, g, _ := three(t)
		wantSteps(t, "Reset", d, 3, func() api.Errno { return g.Reset(base) })
		wantFiles(t, "Reset", d, file("A", "x", ""), file("z", "", "y"))
		wantLog(t, "Reset", g, base+1, base, nil)
		wantLog(t, "reopened", open(t, d, base), base+1, base, nil)
		wantSteps(t, "Append", d, 1, func() api.Errno { return g.Append(sized(9)) })
		wantFiles(t, "Append", d, file("A", "x", ""), loose(base+1, part(base+1, sized(9))), file("z", "", "y"))
		wantLog(t, "Append", g, base+1, base, []api.Entry{sized(9)})
		wantLog(t, "reopened", open(t, d, base), base+1, base+1, []api.Entry{sized(9)})
	}
	d, g, _ := three(t)
	for _, base := range []uint64{highest, highest + 1, api.MaxIndex, math.MaxUint64} {
		rejected(t, "Reset", g, d, api.ErrArg, func() api.Errno { return g.Reset(base) })
	}
	d = disk.New(100)
	g = open(t, d, 3)
	wantSteps(t, "Reset of an empty log", d, 0, func() api.Errno { return g.Reset(8) })
	wantLog(t, "Reset of an empty log", g, 9, 8, nil)
}

// P25.3: the power fails at each step of a Reset.
func TestResetWithoutPower(t *testing.T) {
	l := entries(7)
	for n, last := range []uint64{10, 8, 6} {
		d, g, _ := three(t)
		ok(t, "Arm", d.Arm(n))
		if e := g.Reset(20); e != api.ErrDown {
			t.Errorf("error %d", int(e))
		}
		wantLog(t, "Reset", g, 4, last, l[:last-3])
		ok(t, "Boot", d.Boot())
		wantSteps(t, "the rest", d, uint64(3-n), func() api.Errno { return g.Reset(20) })
		wantLog(t, "the rest", g, 21, 20, nil)
	}
}

// P25.2, P25.3: logs that Open did not create.
func TestNoLog(t *testing.T) {
	for _, g := range []*wal.Log{nil, {}} {
		for i, f := range []func() api.Errno{
			func() api.Errno { return g.Append() },
			func() api.Errno { return g.Append(entries(1)...) },
			func() api.Errno { return g.Append(api.Entry{}) },
			func() api.Errno { return g.Sync() },
			func() api.Errno { return g.Cut(0) },
			func() api.Errno { return g.Cut(1) },
			func() api.Errno { return g.Drop(0) },
			func() api.Errno { return g.Drop(1) },
			func() api.Errno { return g.Reset(0) },
			func() api.Errno { return g.Reset(highest) },
		} {
			if e := f(); e != api.ErrNil {
				t.Errorf("call %d: error %d", i, int(e))
			}
		}
		if g.First() != 0 || g.Last() != 0 || g.Safe() != 0 {
			t.Errorf("%d, %d, %d", g.First(), g.Last(), g.Safe())
		}
		for _, index := range []uint64{0, 1, math.MaxUint64} {
			if e, there := g.At(index); there || e.Term != 0 || e.Kind != 0 || e.Data != nil {
				t.Errorf("At(%d): %+v, %t", index, e, there)
			}
			if l := g.From(index, 5); l != nil {
				t.Errorf("From(%d): %+v", index, l)
			}
		}
	}
}
