package vault_test

import (
	"bytes"
	"math"
	"slices"
	"testing"

	"curfew/api"
	"curfew/disk"
	"curfew/frame"
	"curfew/quill"
	"curfew/segment"
	"curfew/snapshot"
	"curfew/vault"
	"curfew/vow"
	"curfew/wal"
)

// highest is the greatest index that an entry can get.
const highest = api.MaxIndex / 2

// fresh is the state of a node that has kept nothing.
var fresh = vow.State{Term: 0, Vote: vow.Nobody}

// entries returns n entries that differ from each other, of terms 1, 1, 2, 2, 3 and so on.
func entries(n int) []api.Entry {
	var l []api.Entry
	for i := range n {
		l = append(l, api.Entry{Term: uint64(1 + i/2), Kind: 1 + i%3, Data: bytes.Repeat([]byte{byte('a' + i)}, i)})
	}
	return l
}

// sized returns an entry with so many bytes of data.
func sized(n int) api.Entry {
	return api.Entry{Term: 3, Kind: api.EntCommand, Data: bytes.Repeat([]byte("x"), n)}
}

// snap returns a snapshot.
func snap(index, term uint64) api.Snap {
	return api.Snap{Index: index, Term: term, Members: []int{0, 1, 4}, Data: []byte("machine")}
}

// lines returns the lines of entries.
func lines(index uint64, l ...api.Entry) string {
	var all []byte
	for i, e := range l {
		b, why := segment.Line(index+uint64(i), e)
		if why != api.OK {
			panic("an entry that is not sound")
		}
		all = append(all, b...)
	}
	return string(all)
}

// part returns a segment.
func part(first uint64, l ...api.Entry) string {
	return string(segment.Head(first)) + lines(first, l...)
}

// file returns a file with these bytes.
func file(name, kept, loose string) disk.File {
	return disk.File{Name: name, Kept: []byte(kept), Loose: []byte(loose)}
}

// kept returns the file of a segment.
func kept(first uint64, l ...api.Entry) disk.File {
	return file(segment.Name(first), part(first, l...), "")
}

// shot returns the file of a snapshot.
func shot(s api.Snap) disk.File {
	b, e := snapshot.Bytes(s)
	if e != api.OK {
		panic("a snapshot that is not sound")
	}
	return file("snap", string(b), "")
}

// line returns the frame of a state.
func line(s vow.State) string {
	var w quill.Writer
	w.Num(s.Term, uint64(s.Vote+1))
	b, _ := frame.Wrap(3, w.Bytes())
	return string(b)
}

// vowed returns the file of states.
func vowed(l ...vow.State) disk.File {
	all := ""
	for _, s := range l {
		all += line(s)
	}
	return file("vow", all, "")
}

// list returns files, for short.
func list(l ...disk.File) []disk.File { return l }

// ok checks that a call returned OK.
func ok(t testing.TB, what string, e api.Errno) {
	t.Helper()
	if e != api.OK {
		t.Fatalf("%s: error %d", what, int(e))
	}
}

// with returns a disk with these files.
func with(t testing.TB, files ...disk.File) *disk.Disk {
	t.Helper()
	d := disk.New(api.MaxRoom)
	for _, f := range files {
		ok(t, "Append", d.Append(f.Name, f.Kept))
		ok(t, "Sync", d.Sync(f.Name))
		ok(t, "Append", d.Append(f.Name, f.Loose))
	}
	return d
}

// open returns the vault of a disk that must have one.
func open(t testing.TB, d *disk.Disk) *vault.Vault {
	t.Helper()
	v, e := vault.Open(d)
	ok(t, "Open", e)
	return v
}

// reopened returns the vault of a disk after a crash that leaves no loose bytes.
func reopened(t testing.TB, d *disk.Disk) *vault.Vault {
	t.Helper()
	ok(t, "Crash", d.Crash())
	ok(t, "Boot", d.Boot())
	return open(t, d)
}

func equalFiles(a, b []disk.File) bool {
	return slices.EqualFunc(a, b, func(x, y disk.File) bool {
		return x.Name == y.Name && bytes.Equal(x.Kept, y.Kept) && bytes.Equal(x.Loose, y.Loose)
	})
}

// wantFiles compares all files of a disk.
func wantFiles(t testing.TB, what string, d *disk.Disk, want ...disk.File) {
	t.Helper()
	got := d.Files()
	if equalFiles(got, want) {
		return
	}
	t.Errorf("%s: %d files, want %d", what, len(got), len(want))
	for _, f := range got {
		t.Logf("got %q: %q, %q", f.Name, f.Kept, f.Loose)
	}
	for _, f := range want {
		t.Logf("want %q: %q, %q", f.Name, f.Kept, f.Loose)
	}
}

// has is all that a vault tells: without a snapshot a zero one, and the entries from first on.
type has struct {
	state vow.State
	snap  api.Snap
	first uint64
	l     []api.Entry
}

// last returns the index of the last entry.
func (h has) last() uint64 { return h.first + uint64(len(h.l)) - 1 }

// told returns all that a vault tells.
func told(v *vault.Vault) has {
	s, _ := v.Get()
	return has{v.State(), s, v.First(), v.From(0, math.MaxInt)}
}

// wantVault compares all that a vault tells.
func wantVault(t testing.TB, what string, v *vault.Vault, want has) {
	t.Helper()
	if v.State() != want.state {
		t.Errorf("%s: %+v, want %+v", what, v.State(), want.state)
	}
	s, there := v.Get()
	if !snapshot.Same(s, want.snap) || there != (want.snap.Index > 0) || v.Base() != want.snap.Index {
		t.Errorf("%s: snapshot %+v, %t, base %d, want %+v", what, s, there, v.Base(), want.snap)
	}
	if v.First() != want.first || v.Last() != want.last() {
		t.Errorf("%s: First %d, Last %d, want %d, %d", what, v.First(), v.Last(), want.first, want.last())
	}
	if got := v.From(0, math.MaxInt); !segment.Same(got, want.l) {
		t.Errorf("%s: %+v, want %+v", what, got, want.l)
	}
	wantTerms(t, what, v, want)
}

// wantTerms compares what a vault tells of single entries.
func wantTerms(t testing.TB, what string, v *vault.Vault, want has) {
	t.Helper()
	indices := []uint64{0, want.snap.Index, want.snap.Index - 1, want.snap.Index + 1, want.first - 1, want.last() + 1, highest, math.MaxUint64}
	for i := range want.l {
		indices = append(indices, want.first+uint64(i))
	}
	for _, index := range indices {
		var x api.Entry
		inside := index >= want.first && index <= want.last()
		if inside {
			x = want.l[index-want.first]
		}
		if got, there := v.At(index); there != inside || !segment.Same([]api.Entry{got}, []api.Entry{x}) {
			t.Errorf("%s: At(%d): %+v, %t, want %+v", what, index, got, there, x)
		}
		term, known := x.Term, inside
		if index == want.snap.Index {
			term, known = want.snap.Term, true
		}
		if got, there := v.Term(index); got != term || there != known {
			t.Errorf("%s: Term(%d): %d, %t, want %d, %t", what, index, got, there, term, known)
		}
	}
}

// rejected makes a call that must return an error (or OK), and change neither the vault nor the disk.
func rejected(t *testing.T, what string, v *vault.Vault, d *disk.Disk, want api.Errno, f func() api.Errno) {
	t.Helper()
	was, broken, files, steps := told(v), v.Broken(), d.Files(), d.Steps()
	if got := f(); got != want {
		t.Errorf("%s: error %d, want %d", what, int(got), int(want))
	}
	wantVault(t, what, v, was)
	wantFiles(t, what, d, files...)
	if d.Steps() != steps || v.Broken() != broken {
		t.Errorf("%s: %d steps, broken %t", what, d.Steps()-steps, v.Broken())
	}
}

// changed makes a call that must be OK after so many steps, and checks what the vault then has, also after a crash.
func changed(t *testing.T, what string, d *disk.Disk, v *vault.Vault, steps uint64, want has, f func() api.Errno) {
	t.Helper()
	before := d.Steps()
	ok(t, what, f())
	if got := d.Steps() - before; got != steps {
		t.Errorf("%s: %d steps, want %d", what, got, steps)
	}
	if v.Broken() {
		t.Errorf("%s: broken", what)
	}
	wantVault(t, what, v, want)
	for _, f := range d.Files() {
		if len(f.Loose) > 0 {
			t.Errorf("%s: %q has loose bytes", what, f.Name)
		}
	}
}

// P28.1, P28.2, and the chapter's example.
func TestExample(t *testing.T) {
	l := entries(3)
	d := disk.New(api.MaxRoom)
	v := open(t, d)
	wantVault(t, "nothing", v, has{fresh, api.Snap{}, 1, nil})
	ok(t, "Append", v.Append(l...))
	s := snap(2, l[1].Term)
	ok(t, "Save", v.Save(s))
	if term, known := v.Term(2); v.Base() != 2 || !known || term != l[1].Term || v.Last() != 3 {
		t.Errorf("Base %d, Term %d, %t, Last %d", v.Base(), term, known, v.Last())
	}
	wantVault(t, "reopened", reopened(t, d), has{fresh, s, 1, l})
}

// P28.1
func TestOpenErrors(t *testing.T) {
	for _, d := range []*disk.Disk{nil, {}} {
		if v, e := vault.Open(d); v != nil || e != api.ErrNil {
			t.Errorf("%v, error %d", v, int(e))
		}
	}
	l := entries(3)
	for _, files := range [][]disk.File{nil, list(kept(1, l...), shot(snap(2, 1)), file("snap.new", "x", ""), vowed(fresh), file("vow.new", "x", ""))} {
		d := with(t, files...)
		ok(t, "Crash", d.Crash())
		steps := d.Steps()
		if v, e := vault.Open(d); v != nil || e != api.ErrDown {
			t.Errorf("%v, error %d", v, int(e))
		}
		wantFiles(t, "down", d, files...)
		if d.Steps() != steps {
			t.Error("a step")
		}
	}
}

// P28.1: the first error is returned, and what comes after it is not done.
func TestOpenForm(t *testing.T) {
	l := entries(4)
	s := vow.State{Term: 3, Vote: 1}
	torn := file(segment.Name(1), part(1, l...)+"torn", "")
	gap := list(kept(1, l[:1]...), kept(3, l[2:]...))
	good := shot(snap(2, 1))
	for _, x := range []struct {
		what        string
		files, left []disk.File
		steps       uint64
	}{
		{"no snapshot", list(torn, file("snap", "garbage", ""), file("vow", line(s)+"torn", "")), list(torn, file("snap", "garbage", ""), vowed(s)), 2},
		{"no snapshot, and no log", append(slices.Clone(gap), file("snap", "", ""), file("snap.new", "x", "")), append(slices.Clone(gap), file("snap", "", "")), 1},
		{"no log", append(slices.Clone(gap), good, file("snap.new", "x", ""), file("vow", "", line(s)), file("vow.new", "x", "")), append(slices.Clone(gap), good, vowed(s)), 3},
		{"a log above the base", list(kept(4, l...), good), list(kept(4, l...), good), 1},
		{"a log above 1 without a snapshot", list(kept(2, l...), vowed(s)), list(kept(2, l...), vowed(s)), 2},
		{"a loose log above the base", list(file(segment.Name(4), "", part(4, l...)+"torn"), good), list(kept(4, l...), good), 2},
	} {
		d := with(t, x.files...)
		before := d.Steps()
		if v, e := vault.Open(d); v != nil || e != api.ErrForm {
			t.Errorf("%s: %v, error %d", x.what, v, int(e))
		}
		wantFiles(t, x.what, d, x.left...)
		if got := d.Steps() - before; got != x.steps {
			t.Errorf("%s: %d steps, want %d", x.what, got, x.steps)
		}
	}
}

// found is what a disk has, what becomes of it, and what the vault then has.
type found struct {
	what        string
	files, left []disk.File
	steps       uint64
	want        has
}

// disks returns disks that have a vault.
func disks() []found {
	l := entries(7)
	s := vow.State{Term: 5, Vote: 2}
	none := api.Snap{}
	two := list(kept(1, l[:3]...), kept(4, l[3:]...))
	and := func(a []disk.File, b ...disk.File) []disk.File { return append(slices.Clone(a), b...) }
	return []found{
		{"nothing", nil, nil, 0, has{fresh, none, 1, nil}},
		{"other files", list(file("A", "x", "y"), file("z", "", "y")), list(file("A", "x", "y"), file("z", "", "y")), 0, has{fresh, none, 1, nil}},
		{"a state", list(vowed(s)), list(vowed(s)), 1, has{s, none, 1, nil}},
		{"a snapshot", list(shot(snap(9, 3))), list(shot(snap(9, 3))), 0, has{fresh, snap(9, 3), 10, nil}},
		{"a log", two, two, 1, has{fresh, none, 1, l}},
		{"a log without entries", list(kept(1)), list(kept(1)), 1, has{fresh, none, 1, nil}},
		{"all", and(two, shot(snap(2, 1)), vowed(s)), and(two, shot(snap(2, 1)), vowed(s)), 2, has{s, snap(2, 1), 1, l}},
		{"a base in the second file", and(two, shot(snap(5, 3))), and(two, shot(snap(5, 3))), 1, has{fresh, snap(5, 3), 1, l}},
		{"a base that is Last", and(two, shot(snap(7, 4))), and(two, shot(snap(7, 4))), 1, has{fresh, snap(7, 4), 1, l}},
		{"a base above Last", and(two, shot(snap(8, 4))), list(shot(snap(8, 4))), 3, has{fresh, snap(8, 4), 9, nil}},
		{"a base directly before First", list(kept(4, l[3:]...), shot(snap(3, 9))), list(kept(4, l[3:]...), shot(snap(3, 9))), 1, has{fresh, snap(3, 9), 4, l[3:]}},
		{"a base that is First", list(kept(4, l[3:]...), shot(snap(4, 2))), list(kept(4, l[3:]...), shot(snap(4, 2))), 1, has{fresh, snap(4, 2), 4, l[3:]}},
		{"another term", and(two, shot(snap(2, 2)), vowed(s)), list(shot(snap(2, 2)), vowed(s)), 4, has{s, snap(2, 2), 3, nil}},
		{"another term, which is less", and(two, shot(snap(5, 2))), list(shot(snap(5, 2))), 3, has{fresh, snap(5, 2), 6, nil}},
		{"another term at First", list(kept(4, l[3:]...), shot(snap(4, 1))), list(shot(snap(4, 1))), 2, has{fresh, snap(4, 1), 5, nil}},
		{"another term at Last", and(two, shot(snap(7, 5))), list(shot(snap(7, 5))), 3, has{fresh, snap(7, 5), 8, nil}},
		{"bytes that are torn", list(file(segment.Name(1), part(1, l[:3]...), "torn"), shot(snap(2, 1)), file("snap.new", "x", ""), file("vow", line(s), "torn"), file("vow.new", "x", "")), list(kept(1, l[:3]...), shot(snap(2, 1)), vowed(s)), 6, has{s, snap(2, 1), 1, l[:3]}},
		{"another term, and torn bytes", list(file(segment.Name(1), part(1, l[:3]...), "torn"), shot(snap(3, 1)), file("snap.new", "x", "")), list(shot(snap(3, 1))), 4, has{fresh, snap(3, 1), 4, nil}},
		{"the greatest base", and(two, shot(snap(highest-1, 9))), list(shot(snap(highest-1, 9))), 3, has{fresh, snap(highest-1, 9), highest, nil}},
	}
}

// P28.1
func TestOpen(t *testing.T) {
	for _, x := range disks() {
		d := with(t, x.files...)
		before := d.Steps()
		v := open(t, d)
		if got := d.Steps() - before; got != x.steps {
			t.Errorf("%s: %d steps, want %d", x.what, got, x.steps)
		}
		if v.Broken() {
			t.Errorf("%s: broken", x.what)
		}
		wantVault(t, x.what, v, x.want)
		wantFiles(t, x.what, d, x.left...)
	}
}

// P28.1, P28.4: the power fails at each step of Open, and the next one has the same.
func TestOpenWithoutPower(t *testing.T) {
	for _, x := range disks() {
		for n := range int(x.steps) {
			d := with(t, x.files...)
			ok(t, "Arm", d.Arm(n))
			if v, e := vault.Open(d); v != nil || e != api.ErrDown {
				t.Errorf("%s, step %d: %v, error %d", x.what, n, v, int(e))
			}
			ok(t, "Boot", d.Boot())
			wantVault(t, x.what, open(t, d), x.want)
			wantFiles(t, x.what, d, x.left...)
		}
	}
}

// P28.1: From is that of the log.
func TestFrom(t *testing.T) {
	l := entries(7)
	v := open(t, with(t, kept(3, l[2:]...), shot(snap(4, 2))))
	for index := range uint64(10) {
		for most := -1; most < 8; most++ {
			var want []api.Entry
			for i := max(index, 3); i <= 7 && len(want) < most; i++ {
				want = append(want, l[i-1])
			}
			if got := v.From(index, most); !segment.Same(got, want) {
				t.Errorf("From(%d, %d): %+v, want %+v", index, most, got, want)
			}
		}
	}
}

// full returns a disk with a state, a snapshot with the index 2 and three files of 7 entries, its vault, and what that has.
func full(t testing.TB) (*disk.Disk, *vault.Vault, has) {
	t.Helper()
	l := entries(7)
	s := vow.State{Term: 5, Vote: vow.Nobody}
	d := with(t, kept(1, l[:3]...), kept(4, l[3:5]...), kept(6, l[5:]...), shot(snap(2, 1)), vowed(s))
	return d, open(t, d), has{s, snap(2, 1), 1, l}
}

// P28.2
func TestKeep(t *testing.T) {
	d, v, want := full(t)
	rejected(t, "the same", v, d, api.OK, func() api.Errno { return v.Keep(want.state) })
	for _, s := range []vow.State{{Term: api.MaxIndex + 1, Vote: 0}, {Term: 5, Vote: -2}, {Term: 6, Vote: api.MaxNodes}} {
		rejected(t, "not sound", v, d, api.ErrArg, func() api.Errno { return v.Keep(s) })
	}
	rejected(t, "an old term", v, d, api.ErrOld, func() api.Errno { return v.Keep(vow.State{Term: 4, Vote: 1}) })
	want.state.Vote = 3
	changed(t, "a vote", d, v, 2, want, func() api.Errno { return v.Keep(want.state) })
	rejected(t, "another vote", v, d, api.ErrOld, func() api.Errno { return v.Keep(vow.State{Term: 5, Vote: 1}) })
	want.state = vow.State{Term: 9, Vote: 0}
	changed(t, "a term", d, v, 2, want, func() api.Errno { return v.Keep(want.state) })
	files := d.Files()
	wantFiles(t, "Keep", d, append(files[:4:4], vowed(vow.State{Term: 5, Vote: vow.Nobody}, vow.State{Term: 5, Vote: 3}, want.state))...)
	wantVault(t, "reopened", reopened(t, d), want)
}

// P28.2: what is appended is synced.
func TestAppend(t *testing.T) {
	d, v, want := full(t)
	rejected(t, "nothing", v, d, api.OK, func() api.Errno { return v.Append() })
	rejected(t, "not sound", v, d, api.ErrArg, func() api.Errno { return v.Append(sized(3), api.Entry{}) })
	more := entries(3)
	want.l = append(want.l, more...)
	changed(t, "Append", d, v, 2, want, func() api.Errno { return v.Append(more...) })
	wantFiles(t, "Append", d, kept(1, want.l[:3]...), kept(4, want.l[3:5]...), kept(6, want.l[5:]...), shot(want.snap), vowed(want.state))
	want.l = append(want.l, sized(wal.Roll))
	changed(t, "much", d, v, 2, want, func() api.Errno { return v.Append(sized(wal.Roll)) })
	want.l = append(want.l, sized(1))
	changed(t, "a new file", d, v, 2, want, func() api.Errno { return v.Append(sized(1)) })
	wantFiles(t, "a new file", d, kept(1, want.l[:3]...), kept(4, want.l[3:5]...), kept(6, want.l[5:11]...), kept(12, sized(1)), shot(want.snap), vowed(want.state))
	wantVault(t, "reopened", reopened(t, d), want)

	d = disk.New(api.MaxRoom)
	v = open(t, d)
	changed(t, "the first one", d, v, 2, has{fresh, api.Snap{}, 1, []api.Entry{sized(4)}}, func() api.Errno { return v.Append(sized(4)) })
	wantFiles(t, "the first one", d, kept(1, sized(4)))

	d = with(t, shot(snap(highest-1, 3)))
	v = open(t, d)
	rejected(t, "too many", v, d, api.ErrBig, func() api.Errno { return v.Append(entries(2)...) })
	changed(t, "the last one", d, v, 2, has{fresh, snap(highest-1, 3), highest, entries(1)}, func() api.Errno { return v.Append(entries(1)...) })
	rejected(t, "one too many", v, d, api.ErrBig, func() api.Errno { return v.Append(entries(1)...) })
}

// P28.2: at each index.
func TestCut(t *testing.T) {
	for from, steps := range map[uint64]uint64{3: 3, 4: 2, 5: 2, 6: 1, 7: 1, 8: 0} {
		d, v, want := full(t)
		for _, from := range []uint64{0, 1, 2, 9, 10, highest, math.MaxUint64} {
			rejected(t, "Cut", v, d, api.ErrArg, func() api.Errno { return v.Cut(from) })
		}
		want.l = want.l[:from-1]
		changed(t, "Cut", d, v, steps, want, func() api.Errno { return v.Cut(from) })
		rejected(t, "Cut at the end", v, d, api.OK, func() api.Errno { return v.Cut(from) })
		wantVault(t, "reopened", reopened(t, d), want)
	}
	// Without a snapshot, and with one before the log.
	d := with(t, kept(1, entries(3)...))
	v := open(t, d)
	rejected(t, "Cut", v, d, api.ErrArg, func() api.Errno { return v.Cut(0) })
	changed(t, "Cut", d, v, 1, has{fresh, api.Snap{}, 1, nil}, func() api.Errno { return v.Cut(1) })
	wantFiles(t, "Cut", d)
	d = with(t, kept(5, entries(3)...), shot(snap(4, 3)))
	v = open(t, d)
	rejected(t, "Cut", v, d, api.ErrArg, func() api.Errno { return v.Cut(4) })
	changed(t, "Cut", d, v, 1, has{fresh, snap(4, 3), 5, nil}, func() api.Errno { return v.Cut(5) })
	wantFiles(t, "Cut", d, shot(snap(4, 3)))
}

// P28.2: with the Term of the entry the log is dropped up to it, otherwise it is reset.
func TestSave(t *testing.T) {
	l := entries(7)
	for _, x := range []struct {
		what  string
		s     api.Snap
		steps uint64
		left  []disk.File
		first uint64
		l     []api.Entry
	}{
		{"in the first file", snap(3, 2), 4, list(kept(4, l[3:5]...), kept(6, l[5:]...)), 4, l[3:]},
		{"in the second file", snap(4, 2), 4, list(kept(4, l[3:5]...), kept(6, l[5:]...)), 4, l[3:]},
		{"at its end", snap(5, 3), 5, list(kept(6, l[5:]...)), 6, l[5:]},
		{"in the open file", snap(6, 3), 5, list(kept(6, l[5:]...)), 6, l[5:]},
		{"at Last", snap(7, 4), 5, list(kept(6, l[5:]...)), 6, l[5:]},
		{"above Last", snap(8, 4), 6, nil, 9, nil},
		{"far above Last", snap(highest-1, 4), 6, nil, highest, nil},
		{"another term", snap(3, 3), 6, nil, 4, nil},
		{"another term, which is less", snap(5, 2), 6, nil, 6, nil},
		{"another term at Last", snap(7, 3), 6, nil, 8, nil},
		{"another great term", snap(6, api.MaxIndex), 6, nil, 7, nil},
	} {
		d, v, want := full(t)
		for _, s := range []api.Snap{{}, snap(3, 0), snap(highest, 3), {Index: 3, Term: 2}, {Index: 3, Term: 2, Members: []int{1, 1}}} {
			rejected(t, "not sound", v, d, api.ErrArg, func() api.Errno { return v.Save(s) })
		}
		for _, s := range []api.Snap{snap(1, 1), snap(2, 1), snap(2, 9)} {
			rejected(t, "an old one", v, d, api.ErrOld, func() api.Errno { return v.Save(s) })
		}
		want.snap, want.first, want.l = x.s, x.first, x.l
		changed(t, x.what, d, v, x.steps, want, func() api.Errno { return v.Save(x.s) })
		wantFiles(t, x.what, d, append(slices.Clone(x.left), shot(x.s), vowed(want.state))...)
		rejected(t, "the same", v, d, api.ErrOld, func() api.Errno { return v.Save(x.s) })
		if x.what == "far above Last" {
			continue
		}
		// It continues where it is.
		want.l = append(slices.Clone(want.l), sized(3))
		ok(t, x.what, v.Append(sized(3)))
		wantVault(t, x.what+", continued", v, want)
		wantVault(t, x.what+", reopened", reopened(t, d), want)
	}
	d := disk.New(api.MaxRoom)
	v := open(t, d)
	changed(t, "the first one", d, v, 3, has{fresh, snap(1, 1), 2, nil}, func() api.Errno { return v.Save(snap(1, 1)) })
}

// change is a call that changes a vault of full, in so many steps.
type change struct {
	what  string
	steps int
	f     func(v *vault.Vault) api.Errno
}

// changes returns calls of each kind.
func changes() []change {
	return []change{
		{"Keep", 2, func(v *vault.Vault) api.Errno { return v.Keep(vow.State{Term: 6, Vote: 1}) }},
		{"Append", 2, func(v *vault.Vault) api.Errno { return v.Append(entries(3)...) }},
		{"Cut", 3, func(v *vault.Vault) api.Errno { return v.Cut(3) }},
		{"Save with Drop", 5, func(v *vault.Vault) api.Errno { return v.Save(snap(6, 3)) }},
		{"Save with Reset", 6, func(v *vault.Vault) api.Errno { return v.Save(snap(6, 4)) }},
		{"Save above Last", 6, func(v *vault.Vault) api.Errno { return v.Save(snap(9, 4)) }},
	}
}

// none returns calls that need no power.
func none(was has) []change {
	return []change{
		{"Keep of the same", 0, func(v *vault.Vault) api.Errno { return v.Keep(was.state) }},
		{"Keep of what is not sound", 0, func(v *vault.Vault) api.Errno { return v.Keep(vow.State{Term: 0, Vote: -2}) }},
		{"Keep of an old one", 0, func(v *vault.Vault) api.Errno { return v.Keep(fresh) }},
		{"Append of nothing", 0, func(v *vault.Vault) api.Errno { return v.Append() }},
		{"Append of what is not sound", 0, func(v *vault.Vault) api.Errno { return v.Append(api.Entry{}) }},
		{"Cut at the end", 0, func(v *vault.Vault) api.Errno { return v.Cut(8) }},
		{"Cut at 0", 0, func(v *vault.Vault) api.Errno { return v.Cut(0) }},
		{"Cut above Last", 0, func(v *vault.Vault) api.Errno { return v.Cut(99) }},
		{"Save of what is not sound", 0, func(v *vault.Vault) api.Errno { return v.Save(api.Snap{}) }},
		{"Save of an old one", 0, func(v *vault.Vault) api.Errno { return v.Save(snap(1, 1)) }},
	}
}

// P28.1, P28.2: the power fails at each step of each change; then the vault is broken, also when the power is on again.
func TestBroken(t *testing.T) {
	for _, x := range changes() {
		for n := range x.steps + 1 {
			d, v, was := full(t)
			ok(t, "Arm", d.Arm(n))
			e := x.f(v)
			if n == x.steps {
				if e != api.OK || v.Broken() {
					t.Errorf("%s: error %d, broken %t", x.what, int(e), v.Broken())
				}
				break
			}
			if e != api.ErrDown || !v.Broken() {
				t.Errorf("%s, step %d: error %d, broken %t", x.what, n, int(e), v.Broken())
			}
			for _, y := range slices.Concat(changes(), none(was)) {
				rejected(t, y.what, v, d, api.ErrDown, func() api.Errno { return y.f(v) })
			}
			ok(t, "Boot", d.Boot())
			for _, y := range slices.Concat(changes(), none(was)) {
				rejected(t, y.what, v, d, api.ErrDown, func() api.Errno { return y.f(v) })
			}
			if !v.Broken() {
				t.Errorf("%s, step %d: not broken any more", x.what, n)
			}
			v = open(t, d)
			if v.Broken() {
				t.Errorf("%s, step %d: broken from the beginning on", x.what, n)
			}
			ok(t, "Keep", v.Keep(vow.State{Term: 7, Vote: 1}))
		}
	}
}

// P28.2: what a vault tells when it has broken is what its stores tell.
func TestBrokenTells(t *testing.T) {
	for _, x := range changes() {
		for n := range x.steps {
			d, v, want := full(t)
			ok(t, "Arm", d.Arm(n))
			x.f(v)
			switch {
			case x.what == "Append" && n == 1:
				want.l = append(want.l, entries(3)...)
			case x.what == "Cut":
				want.l = want.l[:[]int{7, 5, 3}[n]]
			case x.what == "Save with Drop" && n >= 3:
				want.snap = snap(6, 3)
				want.first, want.l = []uint64{1, 4}[n-3], want.l[[]int{0, 3}[n-3]:]
			case x.what == "Save with Reset" && n >= 3:
				want.snap, want.l = snap(6, 4), want.l[:[]int{7, 5, 3}[n-3]]
			case x.what == "Save above Last" && n >= 3:
				want.snap, want.l = snap(9, 4), want.l[:[]int{7, 5, 3}[n-3]]
			}
			wantVault(t, x.what, v, want)
		}
	}
}

// P28.1: without power, but never told so, a vault is not broken.
func TestNotBrokenWithoutPower(t *testing.T) {
	d, v, was := full(t)
	ok(t, "Crash", d.Crash())
	for i, want := range []api.Errno{api.OK, api.ErrArg, api.ErrOld, api.OK, api.ErrArg, api.OK, api.ErrArg, api.ErrArg, api.ErrArg, api.ErrOld} {
		x := none(was)[i]
		rejected(t, x.what, v, d, want, func() api.Errno { return x.f(v) })
	}
	wantVault(t, "without power", v, was)
	if v.Broken() {
		t.Error("broken")
	}
	for _, x := range changes() {
		d, v, was := full(t)
		ok(t, "Crash", d.Crash())
		if e := x.f(v); e != api.ErrDown || !v.Broken() {
			t.Errorf("%s: error %d, broken %t", x.what, int(e), v.Broken())
		}
		wantVault(t, x.what, v, was)
	}
}

// P28.2: a full disk, which breaks nothing.
func TestFull(t *testing.T) {
	d, v, was := full(t)
	ok(t, "Resize", d.Resize(0))
	for i, x := range changes() {
		if x.what == "Cut" {
			continue
		}
		rejected(t, x.what, v, d, api.ErrFull, func() api.Errno { return changes()[i].f(v) })
	}
	was.l = was.l[:3]
	changed(t, "Cut", d, v, 2, was, func() api.Errno { return v.Cut(4) })
	ok(t, "Resize", d.Resize(api.MaxRoom))
	was.l = append(was.l, sized(5))
	changed(t, "Append", d, v, 2, was, func() api.Errno { return v.Append(sized(5)) })
}

// P28.1, P28.2: what is returned, and what was handed in, is apart.
func TestApart(t *testing.T) {
	d := disk.New(api.MaxRoom)
	v := open(t, d)
	room := append(entries(5), sized(9))
	before := segment.Copy(room)
	ok(t, "Append", v.Append(room[1:5]...))
	members, data := []int{9, 0, 1, 4, 9}, []byte("-machine-")
	s := api.Snap{Index: 2, Term: 2, Members: members[1:4], Data: data[1:8]}
	ok(t, "Save", v.Save(s))
	if !segment.Same(room, before) || !slices.Equal(members, []int{9, 0, 1, 4, 9}) || string(data) != "-machine-" {
		t.Error("an argument was changed")
	}
	for i := range room {
		clear(room[i].Data)
		room[i].Term = 77
	}
	clear(members)
	clear(data)
	want := has{fresh, snap(2, 2), 1, before[1:5]}
	for range 2 {
		wantVault(t, "after changes", v, want)
		got, _ := v.Get()
		clear(got.Members[:cap(got.Members)])
		clear(got.Data[:cap(got.Data)])
		l := v.From(1, 4)
		x, _ := v.At(3)
		for _, e := range append(l, x) {
			clear(e.Data[:cap(e.Data)])
		}
		clear(l[:cap(l)])
	}
	wantVault(t, "reopened", reopened(t, d), want)
}

// P28.1, P28.2: vaults that Open did not create.
func TestNoVault(t *testing.T) {
	for _, v := range []*vault.Vault{nil, {}} {
		for range 2 {
			for _, x := range slices.Concat(changes(), none(has{state: fresh})) {
				if e := x.f(v); e != api.ErrNil {
					t.Errorf("%s: error %d", x.what, int(e))
				}
			}
			s, there := v.Get()
			if v.State() != fresh || there || s.Index != 0 || s.Term != 0 || s.Members != nil || s.Data != nil {
				t.Errorf("%+v, %+v, %t", v.State(), s, there)
			}
			if v.First() != 0 || v.Last() != 0 || v.Base() != 0 || v.Broken() {
				t.Errorf("%d, %d, %d, %t", v.First(), v.Last(), v.Base(), v.Broken())
			}
			for _, index := range []uint64{0, 1, 2, math.MaxUint64} {
				x, there := v.At(index)
				if there || x.Term != 0 || x.Kind != 0 || x.Data != nil || v.From(index, 9) != nil {
					t.Errorf("%d: %+v, %t, %+v", index, x, there, v.From(index, 9))
				}
				if term, known := v.Term(index); term != 0 || known {
					t.Errorf("Term(%d): %d, %t", index, term, known)
				}
			}
		}
	}
}
