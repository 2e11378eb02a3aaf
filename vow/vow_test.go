package vow_test

import (
	"bytes"
	"math"
	"math/rand/v2"
	"slices"
	"strings"
	"testing"

	"curfew/api"
	"curfew/disk"
	"curfew/frame"
	"curfew/quill"
	"curfew/vow"
)

// fresh is the state of a node that has kept nothing.
var fresh = vow.State{Term: 0, Vote: vow.Nobody}

// sound returns states with each bound.
func sound() []vow.State {
	var l []vow.State
	for _, term := range []uint64{0, 1, 2, 255, 256, 300, api.MaxIndex - 1, api.MaxIndex} {
		for vote := vow.Nobody; vote < api.MaxNodes; vote++ {
			l = append(l, vow.State{Term: term, Vote: vote})
		}
	}
	return l
}

// unsound returns states that no node has.
func unsound() []vow.State {
	return []vow.State{
		{Term: api.MaxIndex + 1, Vote: 0}, {Term: api.MaxIndex + 1, Vote: vow.Nobody}, {Term: 1 << 63, Vote: 1}, {Term: math.MaxUint64, Vote: 0},
		{Term: 0, Vote: -2}, {Term: 1, Vote: -2}, {Term: 5, Vote: -8}, {Term: 5, Vote: math.MinInt}, {Term: 1, Vote: api.MaxNodes}, {Term: api.MaxIndex, Vote: api.MaxNodes + 1}, {Term: 5, Vote: math.MaxInt}, {Term: 5, Vote: 1 << 32},
	}
}

// wrap returns a frame that must exist.
func wrap(kind byte, body []byte) string {
	b, e := frame.Wrap(kind, body)
	if e != api.OK {
		panic("no frame")
	}
	return string(b)
}

// line returns the frame of numbers, as the chapter describes it.
func line(numbers ...uint64) string {
	var w quill.Writer
	w.Num(numbers...)
	return wrap(3, w.Bytes())
}

// lines returns the frames of states.
func lines(l ...vow.State) string {
	all := ""
	for _, s := range l {
		all += line(s.Term, uint64(s.Vote+1))
	}
	return all
}

// file returns a file with these bytes.
func file(name, kept, loose string) disk.File {
	return disk.File{Name: name, Kept: []byte(kept), Loose: []byte(loose)}
}

// ok checks that a call returned OK.
func ok(t testing.TB, what string, e api.Errno) {
	t.Helper()
	if e != api.OK {
		t.Fatalf("%s: error %d", what, int(e))
	}
}

// with returns a disk with these files.
func with(t testing.TB, files ...disk.File) *disk.Disk {
	t.Helper()
	d := disk.New(api.MaxRoom)
	for _, f := range files {
		ok(t, "Append", d.Append(f.Name, f.Kept))
		ok(t, "Sync", d.Sync(f.Name))
		ok(t, "Append", d.Append(f.Name, f.Loose))
	}
	return d
}

// open returns the book of a disk that must have one.
func open(t testing.TB, d *disk.Disk) *vow.Book {
	t.Helper()
	b, e := vow.Open(d)
	ok(t, "Open", e)
	return b
}

func equalFiles(a, b []disk.File) bool {
	return slices.EqualFunc(a, b, func(x, y disk.File) bool {
		return x.Name == y.Name && bytes.Equal(x.Kept, y.Kept) && bytes.Equal(x.Loose, y.Loose)
	})
}

// wantFiles compares all files of a disk.
func wantFiles(t *testing.T, what string, d *disk.Disk, want ...disk.File) {
	t.Helper()
	if got := d.Files(); !equalFiles(got, want) {
		t.Errorf("%s: %q, want %q", what, got, want)
	}
}

// rejected makes a call of Keep that must return an error (or OK) and change nothing.
func rejected(t *testing.T, what string, b *vow.Book, d *disk.Disk, want api.Errno, s vow.State) {
	t.Helper()
	state, files, steps := b.State(), d.Files(), d.Steps()
	if e := b.Keep(s); e != want {
		t.Errorf("%s: Keep(%+v) after %+v: error %d, want %d", what, s, state, int(e), int(want))
	}
	if b.State() != state || d.Steps() != steps {
		t.Errorf("%s: Keep(%+v): %+v, was %+v; %d steps", what, s, b.State(), state, d.Steps()-steps)
	}
	wantFiles(t, what, d, files...)
}

// kept makes a call of Keep that must be OK after so many steps.
func kept(t *testing.T, what string, b *vow.Book, d *disk.Disk, steps uint64, s vow.State) {
	t.Helper()
	before := d.Steps()
	ok(t, what, b.Keep(s))
	if b.State() != s || d.Steps()-before != steps {
		t.Errorf("%s: Keep(%+v): %+v after %d steps, want %d", what, s, b.State(), d.Steps()-before, steps)
	}
}

// The chapter's example; P26.4.
func TestExample(t *testing.T) {
	d := disk.New(api.MaxRoom)
	ok(t, "Keep", open(t, d).Keep(vow.State{Term: 3, Vote: 1}))
	ok(t, "Crash", d.Crash())
	ok(t, "Boot", d.Boot())
	b := open(t, d)
	if b.State() != (vow.State{Term: 3, Vote: 1}) {
		t.Errorf("%+v", b.State())
	}
	rejected(t, "another vote", b, d, api.ErrOld, vow.State{Term: 3, Vote: 2})
}

// P26.1
func TestSound(t *testing.T) {
	if vow.Nobody != -1 || vow.Most != 256 {
		t.Errorf("%d, %d", vow.Nobody, vow.Most)
	}
	for _, s := range sound() {
		if !vow.Sound(s) {
			t.Errorf("%+v is not sound", s)
		}
	}
	for _, s := range unsound() {
		if vow.Sound(s) {
			t.Errorf("%+v is sound", s)
		}
	}
}

// P26.1: what may follow, of all pairs.
func TestMay(t *testing.T) {
	for _, was := range sound() {
		for _, s := range sound() {
			want := false
			switch {
			case s.Term > was.Term:
				want = true
			case s.Term == was.Term && s.Vote == was.Vote:
				want = true
			case s.Term == was.Term && was.Vote == -1:
				want = true
			}
			if got := vow.May(was, s); got != want {
				t.Errorf("May(%+v, %+v): %t", was, s, got)
			}
		}
		for _, s := range unsound() {
			if vow.May(was, s) || vow.May(s, was) {
				t.Errorf("May of %+v and %+v", was, s)
			}
		}
	}
	for _, s := range unsound() {
		for _, x := range unsound() {
			if vow.May(s, x) {
				t.Errorf("May(%+v, %+v)", s, x)
			}
		}
	}
}

// P26.2
func TestOpenErrors(t *testing.T) {
	for _, d := range []*disk.Disk{nil, {}} {
		if b, e := vow.Open(d); b != nil || e != api.ErrNil {
			t.Errorf("%v, error %d", b, int(e))
		}
	}
	for _, files := range [][]disk.File{nil, {file("vow", lines(vow.State{Term: 1, Vote: 1}), "")}, {file("vow.new", "x", "")}} {
		d := with(t, files...)
		ok(t, "Crash", d.Crash())
		steps := d.Steps()
		if b, e := vow.Open(d); b != nil || e != api.ErrDown {
			t.Errorf("%v, error %d", b, int(e))
		}
		wantFiles(t, "down", d, files...)
		if d.Steps() != steps {
			t.Error("a step")
		}
	}
}

// found is what a disk has, and what becomes of it.
type found struct {
	what  string
	files []disk.File
	want  vow.State
	left  []disk.File
	steps uint64
}

// wantFound opens the disk of each.
func wantFound(t *testing.T, l ...found) {
	t.Helper()
	for _, x := range l {
		d := with(t, x.files...)
		before := d.Steps()
		b := open(t, d)
		if b.State() != x.want {
			t.Errorf("%s: %+v, want %+v", x.what, b.State(), x.want)
		}
		if got := d.Steps() - before; got != x.steps {
			t.Errorf("%s: %d steps, want %d", x.what, got, x.steps)
		}
		wantFiles(t, x.what, d, x.left...)
	}
}

// P26.2: the files.
func TestOpen(t *testing.T) {
	one, two := vow.State{Term: 3, Vote: vow.Nobody}, vow.State{Term: 3, Vote: 6}
	both := lines(one, two)
	others := []disk.File{file("L000000000000001", "x", "y"), file("snap", "", "z"), file("vow.ne", "v", "w"), file("vox", "", "")}
	wantFound(t,
		found{"nothing", nil, fresh, nil, 0},
		found{"other files", others, fresh, others, 0},
		found{"one state", []disk.File{file("vow", lines(one), "")}, one, []disk.File{file("vow", lines(one), "")}, 1},
		found{"two states", []disk.File{file("vow", both, "")}, two, []disk.File{file("vow", both, "")}, 1},
		found{"loose bytes", []disk.File{file("vow", "", both)}, two, []disk.File{file("vow", both, "")}, 1},
		found{"a loose frame", []disk.File{file("vow", lines(one), lines(two))}, two, []disk.File{file("vow", both, "")}, 1},
		found{"no bytes", []disk.File{file("vow", "", "")}, fresh, []disk.File{file("vow", "", "")}, 1},
		found{"a new file", []disk.File{file("vow.new", lines(two), "")}, fresh, nil, 1},
		found{"a new file that is loose", []disk.File{file("vow.new", "", lines(two))}, fresh, nil, 1},
		found{"a new file without bytes", []disk.File{file("vow.new", "", "")}, fresh, nil, 1},
		found{"both", []disk.File{file("vow", lines(one), ""), file("vow.new", lines(two), "")}, one, []disk.File{file("vow", lines(one), "")}, 2},
		found{"both, of which one is torn", []disk.File{file("vow", lines(one), "x"), file("vow.new", "x", "")}, one, []disk.File{file("vow", lines(one), "")}, 3},
		found{"states that do not follow each other", []disk.File{file("vow", lines(two, one, vow.State{Term: 1, Vote: 2}), "")}, vow.State{Term: 1, Vote: 2}, []disk.File{file("vow", lines(two, one, vow.State{Term: 1, Vote: 2}), "")}, 1},
	)
	for _, s := range sound() {
		b := lines(one, s)
		wantFound(t, found{"any state", []disk.File{file("vow", b, "")}, s, []disk.File{file("vow", b, "")}, 1})
	}
}

// P26.2: bytes that are not a sound state end the file.
func TestOpenEnd(t *testing.T) {
	s := vow.State{Term: 3, Vote: 1}
	good := lines(vow.State{Term: 9, Vote: 2})
	body := good[5 : len(good)-3]
	changed := []byte(good)
	changed[len(changed)-1] ^= 1
	ends := []string{
		"f", "x", good[1:], string(changed), wrap(1, []byte(body)), wrap(2, []byte(body)), wrap(4, []byte(body)), wrap(255, []byte(body)), wrap(3, nil), wrap(3, []byte(body[:len(body)-1])), wrap(3, []byte(body+"\x00")),
		line(), line(9), line(9, 2, 0), line(9, 2, 1), line(api.MaxIndex+1, 2), line(math.MaxUint64, 2), line(9, api.MaxNodes+1), line(9, math.MaxUint64), line(9, 1<<32), wrap(3, []byte("\x02\x00\x09\x01\x02")), wrap(3, []byte("\x81\x09\x01\x02")), wrap(3, []byte("\x09\x02")),
	}
	for n := range len(good) - 1 {
		ends = append(ends, good[:n+1])
	}
	for _, end := range ends {
		for _, more := range []string{"", good} {
			if end+more == good {
				continue
			}
			wantFound(t, found{"an end", []disk.File{file("vow", lines(s)+end+more, "")}, s, []disk.File{file("vow", lines(s), "")}, 2})
			wantFound(t, found{"a loose end", []disk.File{file("vow", lines(s), end+more)}, s, []disk.File{file("vow", lines(s), "")}, 2})
			wantFound(t, found{"an end at once", []disk.File{file("vow", end+more, "")}, fresh, []disk.File{file("vow", "", "")}, 2})
		}
		if t.Failed() {
			t.Fatalf("%q", end)
		}
	}
}

// P26.2: the disk's errors, at each step.
func TestOpenWithoutPower(t *testing.T) {
	s := vow.State{Term: 3, Vote: 1}
	states := [][]disk.File{
		{file("vow", "", lines(s)+"garbage"), file("vow.new", "x", "y")},
		{file("vow", "", lines(s)+"garbage")},
		{file("vow", "", lines(s))},
	}
	for n, want := range states {
		d := with(t, states[0]...)
		ok(t, "Arm", d.Arm(n))
		if b, e := vow.Open(d); b != nil || e != api.ErrDown {
			t.Errorf("step %d: %v, error %d", n, b, int(e))
		}
		wantFiles(t, "without power", d, want...)
		ok(t, "Boot", d.Boot())
		if b := open(t, d); b.State() != s {
			t.Errorf("step %d: %+v", n, b.State())
		}
	}
}

// P26.3: each state after each other one.
func TestKeep(t *testing.T) {
	for _, was := range sound() {
		d := with(t, file("vow", lines(was), ""))
		b := open(t, d)
		for _, s := range unsound() {
			rejected(t, "not sound", b, d, api.ErrArg, s)
		}
		rejected(t, "the same state", b, d, api.OK, was)
		for _, s := range sound() {
			switch {
			case s == was:
			case s.Term < was.Term, s.Term == was.Term && was.Vote != vow.Nobody:
				rejected(t, "an old state", b, d, api.ErrOld, s)
			default:
				d := with(t, file("vow", lines(was), ""))
				b := open(t, d)
				kept(t, "a new state", b, d, 2, s)
				wantFiles(t, "a new state", d, file("vow", lines(was, s), ""))
				if got := open(t, d).State(); got != s {
					t.Errorf("reopened: %+v, want %+v", got, s)
				}
			}
		}
	}
}

// P26.3: the first states of a disk.
func TestKeepFirst(t *testing.T) {
	d := with(t, file("snap", "x", "y"))
	b := open(t, d)
	if b.State() != fresh {
		t.Errorf("%+v", b.State())
	}
	rejected(t, "the same state", b, d, api.OK, fresh)
	kept(t, "a vote", b, d, 2, vow.State{Term: 0, Vote: 6})
	wantFiles(t, "a vote", d, file("snap", "x", "y"), file("vow", line(0, 7), ""))
	rejected(t, "another vote", b, d, api.ErrOld, vow.State{Term: 0, Vote: 5})
	rejected(t, "no vote", b, d, api.ErrOld, fresh)
	kept(t, "a term", b, d, 2, vow.State{Term: 300, Vote: vow.Nobody})
	kept(t, "a vote in it", b, d, 2, vow.State{Term: 300, Vote: 0})
	wantFiles(t, "all", d, file("snap", "x", "y"), file("vow", line(0, 7)+line(300, 0)+line(300, 1), ""))
	rejected(t, "the same state", b, d, api.OK, vow.State{Term: 300, Vote: 0})
}

// long returns a file of so many bytes, which is enough for some frames, and the last state of which has the term 5 and the vote 1.
func long(size int) string {
	ten, eleven, end := line(0, 0), line(1, 0), line(5, 2)
	rest := size - len(end)
	n := rest % 10
	b := strings.Repeat(ten, (rest-11*n)/10) + strings.Repeat(eleven, n) + end
	if len(b) != size {
		panic("frames of other lengths")
	}
	return b
}

// P26.3: the file is replaced when it has Most bytes or more.
func TestKeepReplaces(t *testing.T) {
	s := vow.State{Term: 6, Vote: 2}
	other := file("zzz", "", "z")
	for n := vow.Most - 12; n < vow.Most+12; n++ {
		before := long(n)
		d := with(t, file("vow", before, ""), other)
		b := open(t, d)
		if n < vow.Most {
			kept(t, "added", b, d, 2, s)
			wantFiles(t, "added", d, file("vow", before+lines(s), ""), other)
			continue
		}
		rejected(t, "the same state", b, d, api.OK, b.State())
		rejected(t, "an old state", b, d, api.ErrOld, fresh)
		kept(t, "replaced", b, d, 3, s)
		wantFiles(t, "replaced", d, file("vow", lines(s), ""), other)
		kept(t, "added again", b, d, 2, vow.State{Term: 7, Vote: 0})
		wantFiles(t, "added again", d, file("vow", lines(s)+line(7, 1), ""), other)
		if got := open(t, d).State(); got != (vow.State{Term: 7, Vote: 0}) {
			t.Errorf("reopened: %+v", got)
		}
	}
}

// P26.3: the bytes that one book has added count as well, and a new file that was left is removed first.
func TestKeepGrows(t *testing.T) {
	d := disk.New(api.MaxRoom)
	b := open(t, d)
	size, replaced := 0, 0
	for term := range uint64(200) {
		s := vow.State{Term: term, Vote: int(term % 3)}
		n := len(lines(s))
		if size < vow.Most {
			kept(t, "added", b, d, 2, s)
			size += n
		} else {
			replaced++
			steps := uint64(3)
			if replaced%2 == 0 {
				ok(t, "Append", d.Append("vow.new", []byte("garbage")))
				steps = 4
			}
			kept(t, "replaced", b, d, steps, s)
			size = n
		}
		files := d.Files()
		if len(files) != 1 || files[0].Name != "vow" || len(files[0].Kept) != size || len(files[0].Loose) != 0 {
			t.Fatalf("term %d: %q, want %d bytes", term, files, size)
		}
		if got := open(t, d).State(); got != s {
			t.Fatalf("reopened: %+v, want %+v", got, s)
		}
	}
	if replaced < 5 {
		t.Errorf("replaced %d times", replaced)
	}
}

// P26.3: the power fails at each step of a Keep.
func TestKeepWithoutPower(t *testing.T) {
	s := vow.State{Term: 6, Vote: 2}
	small, big, add := long(vow.Most-1), long(vow.Most), lines(s)
	for _, x := range []struct {
		what   string
		before []disk.File
		states [][]disk.File
	}{
		{"a first file", nil, [][]disk.File{{file("vow", "", add)}, {file("vow", "", add)}}},
		{"a small file", []disk.File{file("vow", small, "")}, [][]disk.File{{file("vow", small, add)}, {file("vow", small, add)}}},
		{"a big file", []disk.File{file("vow", big, "")}, [][]disk.File{{file("vow", big, ""), file("vow.new", "", add)}, {file("vow", big, ""), file("vow.new", "", add)}, {file("vow", big, ""), file("vow.new", add, "")}}},
		{"a big file and a new one", []disk.File{file("vow", big, ""), file("vow.new", "x", "y")}, [][]disk.File{
			{file("vow", big, ""), file("vow.new", "x", "y")}, {file("vow", big, ""), file("vow.new", "", add)}, {file("vow", big, ""), file("vow.new", "", add)}, {file("vow", big, ""), file("vow.new", add, "")},
		}},
	} {
		for n, want := range x.states {
			d := disk.New(api.MaxRoom)
			if len(x.before) > 0 {
				d = with(t, x.before[0])
			}
			b := open(t, d)
			if len(x.before) > 1 {
				f := x.before[1]
				ok(t, "Append", d.Append(f.Name, f.Kept))
				ok(t, "Sync", d.Sync(f.Name))
				ok(t, "Append", d.Append(f.Name, f.Loose))
			}
			was := b.State()
			ok(t, "Arm", d.Arm(n))
			if e := b.Keep(s); e != api.ErrDown || b.State() != was {
				t.Errorf("%s, step %d: error %d, %+v", x.what, n, int(e), b.State())
			}
			wantFiles(t, x.what, d, want...)
			rejected(t, x.what, b, d, api.ErrDown, s)
			rejected(t, x.what, b, d, api.OK, was)
			rejected(t, x.what, b, d, api.ErrArg, vow.State{Term: 9, Vote: -2})
			ok(t, "Boot", d.Boot())
			ok(t, x.what, b.Keep(s))
			if b.State() != s || open(t, d).State() != s {
				t.Errorf("%s, step %d: %+v in the end", x.what, n, b.State())
			}
		}
	}
}

// P26.3: a full disk.
func TestKeepFull(t *testing.T) {
	s := vow.State{Term: 6, Vote: 2}
	for _, x := range []struct {
		what   string
		before string
		steps  uint64
	}{{"a small file", long(vow.Most - 1), 2}, {"a big file", long(vow.Most), 3}} {
		d := with(t, file("vow", x.before, ""))
		b := open(t, d)
		ok(t, "Resize", d.Resize(len(x.before)+len(lines(s))-1))
		rejected(t, x.what, b, d, api.ErrFull, s)
		ok(t, "Resize", d.Resize(len(x.before)+len(lines(s))))
		kept(t, x.what, b, d, x.steps, s)
	}
	// A new file that was left is removed even if there is no room for another one then.
	d := with(t, file("vow", long(vow.Most), ""))
	b := open(t, d)
	ok(t, "Append", d.Append("vow.new", []byte("x")))
	ok(t, "Resize", d.Resize(0))
	if e := b.Keep(s); e != api.ErrFull || b.State() != (vow.State{Term: 5, Vote: 1}) {
		t.Errorf("error %d, %+v", int(e), b.State())
	}
	wantFiles(t, "full", d, file("vow", long(vow.Most), ""))
}

// P26.3: books that Open did not create.
func TestNoBook(t *testing.T) {
	for _, b := range []*vow.Book{nil, {}} {
		for _, s := range slices.Concat(sound(), unsound()) {
			if e := b.Keep(s); e != api.ErrNil {
				t.Fatalf("Keep(%+v): error %d", s, int(e))
			}
		}
		if b.State() != fresh {
			t.Errorf("%+v", b.State())
		}
	}
}

// P26.4: after any crash the state is the one that was kept last, or the one that was being kept; and so terms never decrease, and nobody votes twice.
func TestCrashes(t *testing.T) {
	random := rand.New(rand.NewPCG(26, 4))
	before, after := 0, 0
	for range 300 {
		d := disk.New(api.MaxRoom)
		b := open(t, d)
		votes := map[uint64]int{}
		for range 40 {
			was, s := b.State(), b.State()
			ok(t, "Arm", d.Arm(random.IntN(30)))
			for !d.Down() {
				was = b.State()
				s = vow.State{Term: was.Term + uint64(random.IntN(3)), Vote: random.IntN(api.MaxNodes+1) - 1}
				b.Keep(s)
			}
			keep := random.IntN(1 << 16)
			for _, f := range d.Files() {
				// At most one file has loose bytes; often all of them are left.
				if len(f.Loose) > 0 && random.IntN(2) == 0 {
					keep = len(f.Loose)
				}
			}
			ok(t, "Crash", d.Crash(disk.Tear{Keep: uint16(keep), Turn: uint32(random.IntN(2) * random.IntN(1<<24))}))
			ok(t, "Boot", d.Boot())
			b = open(t, d)
			got := b.State()
			switch {
			case got == was:
				before++
			case got == s && vow.May(was, s):
				after++
			default:
				t.Fatalf("%+v, want %+v or %+v", got, was, s)
			}
			if vote, there := votes[got.Term]; there && vote != got.Vote {
				t.Fatalf("%+v, but the vote was %d", got, vote)
			}
			if got.Vote != vow.Nobody {
				votes[got.Term] = got.Vote
			}
		}
	}
	if before < 1000 || after < 1000 {
		t.Errorf("%d before, %d after", before, after)
	}
}

// P26.2 for arbitrary files, which are read with quill and frame alone.
func FuzzOpen(f *testing.F) {
	f.Add([]byte(lines(sound()[5], sound()[9])), []byte("x"), uint16(20))
	f.Add([]byte(long(vow.Most)), []byte(lines(fresh)), uint16(1<<15))
	f.Fuzz(func(t *testing.T, a, c []byte, at uint16) {
		d := disk.New(api.MaxRoom)
		if d.Append("vow", a) != api.OK || d.Append("vow.new", c) != api.OK {
			return
		}
		want, good := fresh, 0
		for {
			kind, body, n, e := frame.Take(a[good:])
			if e != api.OK || kind != 3 {
				break
			}
			r := quill.Open(body)
			s := vow.State{Term: r.Num(math.MaxUint64), Vote: int(r.Num(100)) - 1}
			if r.End() != api.OK || !vow.Sound(s) {
				break
			}
			want, good = s, good+n
		}
		b := open(t, d)
		if b.State() != want {
			t.Errorf("%+v, want %+v", b.State(), want)
		}
		wantFiles(t, "any file", d, file("vow", string(a[:good]), ""))
		s := vow.State{Term: uint64(at), Vote: int(at % api.MaxNodes)}
		e := b.Keep(s)
		if (e == api.OK) != vow.May(want, s) || (e == api.OK) != (b.State() == s) {
			t.Errorf("Keep(%+v) after %+v: error %d, %+v", s, want, int(e), b.State())
		}
		if got := open(t, d); got.State() != b.State() {
			t.Errorf("reopened: %+v, want %+v", got.State(), b.State())
		}
	})
}
