package snapshot_test

import (
	"bytes"
	"math"
	"math/rand/v2"
	"slices"
	"testing"

	"curfew/api"
	"curfew/disk"
	"curfew/frame"
	"curfew/quill"
	"curfew/snapshot"
)

// end is the index from which on no snapshot is sound.
const end = api.MaxIndex / 2

// all are the members of the greatest row.
func all() []int { return []int{0, 1, 2, 3, 4, 5, 6} }

// sized returns a snapshot with so many bytes of data.
func sized(index uint64, n int) api.Snap {
	return api.Snap{Index: index, Term: 2, Members: []int{0, 2}, Data: bytes.Repeat([]byte("x"), n)}
}

// sound returns snapshots with each bound, all of them different.
func sound() []api.Snap {
	return []api.Snap{
		{Index: 1, Term: 1, Members: []int{0}},
		{Index: 1, Term: 1, Members: []int{0}, Data: []byte("a")},
		{Index: 1, Term: 1, Members: []int{1}, Data: []byte("a")},
		{Index: 1, Term: 1, Members: []int{6}, Data: []byte("b")},
		{Index: 2, Term: 1, Members: []int{0}},
		{Index: 1, Term: 2, Members: []int{0}},
		{Index: 300, Term: 255, Members: []int{0, 6}, Data: []byte{0}},
		{Index: 300, Term: 256, Members: []int{5, 6}, Data: []byte{0, 0}},
		{Index: end - 2, Term: api.MaxIndex - 1, Members: []int{1, 3, 5}, Data: []byte("snap")},
		{Index: end - 1, Term: api.MaxIndex, Members: all(), Data: bytes.Repeat([]byte{255}, 255)},
		{Index: end - 1, Term: api.MaxIndex, Members: all()[:6], Data: bytes.Repeat([]byte{0}, 256)},
		{Index: end - 1, Term: api.MaxIndex, Members: all()[1:], Data: bytes.Repeat([]byte("y"), snapshot.Most-1)},
		{Index: end - 1, Term: api.MaxIndex, Members: all(), Data: bytes.Repeat([]byte("z"), snapshot.Most)},
	}
}

// unsound returns snapshots each of which has one field that is not possible.
func unsound() []api.Snap {
	good := func() api.Snap { return api.Snap{Index: 9, Term: 3, Members: []int{0, 2, 5}, Data: []byte("d")} }
	l := []api.Snap{{}, sized(9, snapshot.Most+1), sized(9, api.MaxText), sized(9, api.MaxText+1)}
	for _, index := range []uint64{0, end, end + 1, api.MaxIndex, 1 << 63, math.MaxUint64} {
		s := good()
		s.Index = index
		l = append(l, s)
	}
	for _, term := range []uint64{0, api.MaxIndex + 1, 1 << 63, math.MaxUint64} {
		s := good()
		s.Term = term
		l = append(l, s)
	}
	for _, members := range [][]int{
		nil, {}, {-1}, {7}, {math.MinInt}, {math.MaxInt}, {1 << 32}, {0, 0}, {6, 6}, {1, 0}, {0, 2, 1}, {0, 2, 2}, {0, 2, 0}, {-1, 0}, {0, 7}, {5, 6, 7}, {2, -1, 3}, {0, math.MinInt}, {0, math.MaxInt, 1}, {0, 1, 2, 3, 4, 5, 6, 7}, {-1, 0, 1, 2, 3, 4, 5, 6}, {0, 1, 2, 3, 4, 5, 6, 6}, {6, 5, 4, 3, 2, 1, 0},
	} {
		s := good()
		s.Members = members
		l = append(l, s)
	}
	return l
}

// wrap returns a frame that must exist.
func wrap(kind byte, body []byte) string {
	b, e := frame.Wrap(kind, body)
	if e != api.OK {
		panic("no frame")
	}
	return string(b)
}

// body returns numbers and a text, as the chapter describes them.
func body(data string, numbers ...uint64) []byte {
	var w quill.Writer
	w.Num(numbers...)
	w.Text(data)
	return w.Bytes()
}

// form returns the encoding of a snapshot.
func form(s api.Snap) string {
	numbers := []uint64{s.Index, s.Term, uint64(len(s.Members))}
	for _, n := range s.Members {
		numbers = append(numbers, uint64(n))
	}
	return wrap(4, body(string(s.Data), numbers...))
}

// file returns a file with these bytes.
func file(name, kept, loose string) disk.File {
	return disk.File{Name: name, Kept: []byte(kept), Loose: []byte(loose)}
}

// list returns files, for short.
func list(l ...disk.File) []disk.File { return l }

// ok checks that a call returned OK.
func ok(t testing.TB, what string, e api.Errno) {
	t.Helper()
	if e != api.OK {
		t.Fatalf("%s: error %d", what, int(e))
	}
}

// put adds files to a disk.
func put(t testing.TB, d *disk.Disk, files ...disk.File) {
	t.Helper()
	for _, f := range files {
		ok(t, "Append", d.Append(f.Name, f.Kept))
		ok(t, "Sync", d.Sync(f.Name))
		ok(t, "Append", d.Append(f.Name, f.Loose))
	}
}

// with returns a disk with these files.
func with(t testing.TB, files ...disk.File) *disk.Disk {
	t.Helper()
	d := disk.New(api.MaxRoom)
	put(t, d, files...)
	return d
}

// open returns the store of a disk that must have one.
func open(t testing.TB, d *disk.Disk) *snapshot.Store {
	t.Helper()
	x, e := snapshot.Open(d)
	ok(t, "Open", e)
	return x
}

// equal compares snapshots without a call of the package.
func equal(a, b api.Snap) bool {
	return a.Index == b.Index && a.Term == b.Term && slices.Equal(a.Members, b.Members) && string(a.Data) == string(b.Data)
}

// zero reports whether a snapshot is the zero value.
func zero(s api.Snap) bool { return equal(s, api.Snap{}) }

// short returns what a failed test tells of a snapshot.
func short(s api.Snap) []any { return []any{s.Index, s.Term, s.Members, len(s.Data)} }

// wantSnap compares what a store has, the zero snapshot for none.
func wantSnap(t testing.TB, what string, x *snapshot.Store, want api.Snap) {
	t.Helper()
	got, there := x.Get()
	if there != !zero(want) || !equal(got, want) {
		t.Errorf("%s: %v, %t, want %v", what, short(got), there, short(want))
	}
}

func equalFiles(a, b []disk.File) bool {
	return slices.EqualFunc(a, b, func(x, y disk.File) bool {
		return x.Name == y.Name && bytes.Equal(x.Kept, y.Kept) && bytes.Equal(x.Loose, y.Loose)
	})
}

// wantFiles compares all files of a disk.
func wantFiles(t testing.TB, what string, d *disk.Disk, want ...disk.File) {
	t.Helper()
	got := d.Files()
	if equalFiles(got, want) {
		return
	}
	t.Errorf("%s: %d files, want %d", what, len(got), len(want))
	for _, f := range got {
		t.Logf("got %q: %d and %d bytes", f.Name, len(f.Kept), len(f.Loose))
	}
	for _, f := range want {
		t.Logf("want %q: %d and %d bytes", f.Name, len(f.Kept), len(f.Loose))
	}
}

// rejected makes a call of Save that must return an error and change nothing.
func rejected(t *testing.T, what string, x *snapshot.Store, d *disk.Disk, want api.Errno, s api.Snap) {
	t.Helper()
	was, _ := x.Get()
	files, steps := d.Files(), d.Steps()
	if e := x.Save(s); e != want {
		t.Errorf("%s: Save of %v after %v: error %d, want %d", what, short(s), short(was), int(e), int(want))
	}
	wantSnap(t, what, x, was)
	wantFiles(t, what, d, files...)
	if d.Steps() != steps {
		t.Errorf("%s: %d steps", what, d.Steps()-steps)
	}
}

// saved makes a call of Save that must be OK after so many steps, and have been all that is on the disk but the others.
func saved(t *testing.T, what string, x *snapshot.Store, d *disk.Disk, steps uint64, s api.Snap, others ...disk.File) {
	t.Helper()
	before := d.Steps()
	ok(t, what, x.Save(s))
	if got := d.Steps() - before; got != steps {
		t.Errorf("%s: %d steps, want %d", what, got, steps)
	}
	wantSnap(t, what, x, s)
	wantFiles(t, what, d, append(others, file("snap", form(s), ""))...)
	wantSnap(t, what+", reopened", open(t, d), s)
}

// The chapter's example.
func TestExample(t *testing.T) {
	d := disk.New(api.MaxRoom)
	x := open(t, d)
	ok(t, "Save", x.Save(sized(5, 10)))
	rejected(t, "the same index", x, d, api.ErrOld, sized(5, 20))
}

// P27.1
func TestSound(t *testing.T) {
	if snapshot.Most != 32768 {
		t.Errorf("Most is %d", snapshot.Most)
	}
	for _, s := range sound() {
		if !snapshot.Sound(s) {
			t.Errorf("%v is not sound", short(s))
		}
	}
	for _, s := range unsound() {
		if snapshot.Sound(s) {
			t.Errorf("%v is sound", short(s))
		}
	}
}

// P27.1: all lists of at most 3 numbers, some of which are no nodes, and those of which one is a number too many.
func TestSoundMembers(t *testing.T) {
	rows := 0
	var check func(l []int, row bool)
	check = func(l []int, row bool) {
		s := api.Snap{Index: 1, Term: 1, Members: l}
		if got := snapshot.Sound(s); got != (row && len(l) > 0) {
			t.Errorf("%v: %t", l, got)
		}
		if row {
			rows++
		}
		if len(l) == 3 {
			return
		}
		for n := -2; n < api.MaxNodes+2; n++ {
			check(append(slices.Clone(l), n), row && n >= 0 && n < api.MaxNodes && (len(l) == 0 || n > l[len(l)-1]))
		}
	}
	check(nil, true)
	if rows != 1+7+21+35 {
		t.Errorf("%d rows", rows)
	}
	for i := range 8 {
		for n := -1; n <= api.MaxNodes; n++ {
			if l := slices.Insert(all(), i, n); snapshot.Sound(api.Snap{Index: 1, Term: 1, Members: l}) {
				t.Errorf("%v", l)
			}
		}
	}
}

// P27.1: of all pairs, sound or not.
func TestSame(t *testing.T) {
	l := append(sound(), unsound()...)
	for _, a := range l {
		for _, b := range l {
			if snapshot.Same(a, b) != equal(a, b) {
				t.Errorf("%v and %v: %t", short(a), short(b), !equal(a, b))
			}
		}
	}
	for i, a := range sound() {
		for j, b := range sound() {
			if snapshot.Same(a, b) != (i == j) {
				t.Errorf("%v and %v", short(a), short(b))
			}
		}
	}
	if !snapshot.Same(api.Snap{}, api.Snap{Members: []int{}, Data: []byte{}}) {
		t.Error("nil and empty lists")
	}
	a, b := sized(5, 9), sized(5, 9)
	for i := range b.Data {
		b.Data[i]++
		if snapshot.Same(a, b) || snapshot.Same(b, a) {
			t.Errorf("byte %d", i)
		}
		b.Data[i]--
	}
	if !snapshot.Same(a, b) {
		t.Error("equal ones")
	}
}

// P27.1: also of snapshots that are not sound.
func TestCopy(t *testing.T) {
	for _, s := range append(sound(), unsound()...) {
		was := api.Snap{Index: s.Index, Term: s.Term, Members: slices.Clone(s.Members), Data: bytes.Clone(s.Data)}
		c := snapshot.Copy(s)
		if !equal(c, was) {
			t.Errorf("%v, want %v", short(c), short(was))
		}
		spoil(c)
		if !equal(s, was) {
			t.Errorf("%v is not apart", short(was))
		}
		c = snapshot.Copy(s)
		spoil(s)
		if !equal(c, was) {
			t.Errorf("the copy of %v is not apart", short(was))
		}
	}
}

// spoil changes all that belongs to the lists of a snapshot, with their spare capacity.
func spoil(s api.Snap) {
	members, data := s.Members[:cap(s.Members)], s.Data[:cap(s.Data)]
	for i := range members {
		members[i] ^= 7
	}
	for i := range data {
		data[i] ^= 255
	}
}

// roomy returns a snapshot whose lists have spare capacity, and what it has there.
func roomy() (s api.Snap, spare func() bool) {
	members, data := []int{9, 0, 2, 8, 8}, []byte("-data--")
	s = api.Snap{Index: 4, Term: 2, Members: members[1:3], Data: data[1:5]}
	return s, func() bool {
		return slices.Equal(members, []int{9, 0, 2, 8, 8}) && string(data) == "-data--"
	}
}

// P27.1: encodings by hand.
func TestBytes(t *testing.T) {
	for _, x := range []struct {
		s    api.Snap
		body string
	}{
		{api.Snap{Index: 1, Term: 1, Members: []int{0}}, "\x01\x01\x01\x01\x01\x01\x00\x00"},
		{api.Snap{Index: 300, Term: 2, Members: []int{0, 1, 6}, Data: []byte("ab")}, "\x02\x01\x2c\x01\x02\x01\x03\x00\x01\x01\x01\x06\x01\x02ab"},
		{api.Snap{Index: end - 1, Term: api.MaxIndex, Members: []int{3}, Data: bytes.Repeat([]byte("q"), 256)}, "\x08\x07\xff\xff\xff\xff\xff\xff\xff\x08\x10\x00\x00\x00\x00\x00\x00\x00\x01\x01\x01\x03\x02\x01\x00" + string(bytes.Repeat([]byte("q"), 256))},
	} {
		b, e := snapshot.Bytes(x.s)
		if e != api.OK || string(b) != wrap(4, []byte(x.body)) {
			t.Errorf("%v: %q, error %d", short(x.s), b, int(e))
		}
		if b[1] != 4 {
			t.Errorf("kind %d", b[1])
		}
	}
	for _, s := range sound() {
		b, e := snapshot.Bytes(s)
		if e != api.OK || string(b) != form(s) {
			t.Errorf("%v: %d bytes, error %d", short(s), len(b), int(e))
		}
	}
	for _, s := range unsound() {
		if b, e := snapshot.Bytes(s); b != nil || e != api.ErrArg {
			t.Errorf("%v: %d bytes, error %d", short(s), len(b), int(e))
		}
	}
	s, spare := roomy()
	b, _ := snapshot.Bytes(s)
	clear(b[:cap(b)])
	if !spare() {
		t.Error("the argument was changed")
	}
}

// P27.1: Read undoes Bytes, into new memory.
func TestRead(t *testing.T) {
	for _, s := range sound() {
		b := []byte(form(s))
		got, there := snapshot.Read(b)
		if !there || !equal(got, s) {
			t.Errorf("%v, %t, want %v", short(got), there, short(s))
		}
		clear(b)
		if !equal(got, s) {
			t.Errorf("%v is not apart", short(s))
		}
		b = []byte(form(s))
		got, _ = snapshot.Read(b)
		spoil(got)
		if string(b) != form(s) {
			t.Errorf("the bytes of %v are not apart", short(s))
		}
		// What is beyond the length is not read.
		b = append(b, "more"...)
		if got, there = snapshot.Read(b[:len(b)-4]); !there || !equal(got, s) {
			t.Errorf("%v with spare capacity", short(s))
		}
	}
}

// notRead checks that bytes are not an encoding.
func notRead(t *testing.T, what, b string) {
	t.Helper()
	if s, there := snapshot.Read([]byte(b)); there || !zero(s) || s.Members != nil || s.Data != nil {
		t.Errorf("%s: %v, %t", what, short(s), there)
	}
}

// P27.1: bytes that are not an encoding.
func TestReadErrors(t *testing.T) {
	s := api.Snap{Index: 300, Term: 2, Members: []int{0, 1, 6}, Data: []byte("ab")}
	good := form(s)
	inner := body("ab", 300, 2, 3, 0, 1, 6)
	notRead(t, "nothing", "")
	for n := range len(good) {
		notRead(t, "too short", good[:n])
		if n > 0 {
			notRead(t, "without its beginning", good[n:])
		}
		for bit := range 8 {
			b := []byte(good)
			b[n] ^= 1 << bit
			notRead(t, "a changed bit", string(b))
		}
	}
	for _, more := range []string{"\x00", "f", "x", good} {
		notRead(t, "something follows", good+more)
		notRead(t, "something precedes", more+good)
	}
	for kind := range 256 {
		if kind != 0 && kind != 4 {
			notRead(t, "another kind", wrap(byte(kind), inner))
		}
	}
	for n := range len(inner) {
		notRead(t, "a short body", wrap(4, inner[:n]))
	}
	notRead(t, "a long body", wrap(4, append(inner, 0)))
	notRead(t, "a long body", wrap(4, append(inner, inner...)))
	for _, x := range []struct {
		what string
		body []byte
	}{
		{"one member too many", body("ab", 300, 2, 2, 0, 1, 6)},
		{"one member too few", body("ab", 300, 2, 4, 0, 1, 6)},
		{"no members", body("ab", 300, 2, 0)},
		{"8 members", body("ab", 300, 2, 8, 0, 1, 2, 3, 4, 5, 6, 7)},
		{"8 members, two of them equal", body("ab", 300, 2, 8, 0, 1, 2, 3, 4, 5, 6, 6)},
		{"many members", body("ab", 300, 2, math.MaxUint64)},
		{"a member that is no node", body("ab", 300, 2, 1, 7)},
		{"a member that is no int", body("ab", 300, 2, 1, math.MaxUint64)},
		{"a member that is none modulo 2^32", body("ab", 300, 2, 1, 1<<32)},
		{"equal members", body("ab", 300, 2, 2, 1, 1)},
		{"descending members", body("ab", 300, 2, 2, 1, 0)},
		{"index 0", body("ab", 0, 2, 1, 0)},
		{"the index of the end", body("ab", end, 2, 1, 0)},
		{"a great index", body("ab", math.MaxUint64, 2, 1, 0)},
		{"term 0", body("ab", 300, 0, 1, 0)},
		{"a term beyond the last", body("ab", 300, api.MaxIndex+1, 1, 0)},
		{"a great term", body("ab", 300, math.MaxUint64, 1, 0)},
		{"too much data", body(string(make([]byte, snapshot.Most+1)), 300, 2, 1, 0)},
		{"a number that is too long", []byte("\x02\x00\x09\x01\x02\x01\x01\x00\x00")},
		{"a number below 0", []byte("\x81\x09\x01\x02\x01\x01\x00\x00")},
	} {
		notRead(t, x.what, wrap(4, x.body))
	}
}

// P27.2
func TestOpenErrors(t *testing.T) {
	for _, d := range []*disk.Disk{nil, {}} {
		if x, e := snapshot.Open(d); x != nil || e != api.ErrNil {
			t.Errorf("%v, error %d", x, int(e))
		}
	}
	for _, files := range [][]disk.File{nil, list(file("snap", form(sized(5, 9)), "")), list(file("snap", "garbage", "")), list(file("snap.new", "x", ""))} {
		d := with(t, files...)
		ok(t, "Crash", d.Crash())
		steps := d.Steps()
		if x, e := snapshot.Open(d); x != nil || e != api.ErrDown {
			t.Errorf("%v, error %d", x, int(e))
		}
		wantFiles(t, "down", d, files...)
		if d.Steps() != steps {
			t.Error("a step")
		}
	}
}

// P27.2: what is found, and what becomes of it.
func TestOpen(t *testing.T) {
	s := sized(5, 9)
	one, two := form(s), form(sized(6, 9))
	others := list(file("L000000000000001", "x", "y"), file("sna", one, ""), file("snap.ne", one, ""), file("snap.new1", "", one), file("vow", "", "z"))
	for _, x := range []struct {
		what  string
		files []disk.File
		want  api.Snap
		left  []disk.File
		steps uint64
	}{
		{"nothing", nil, api.Snap{}, nil, 0},
		{"other files", others, api.Snap{}, others, 0},
		{"a snapshot", list(file("snap", one, "")), s, list(file("snap", one, "")), 0},
		{"a loose snapshot", list(file("snap", "", one)), s, list(file("snap", "", one)), 0},
		{"a snapshot in two parts", list(file("snap", one[:9], one[9:])), s, list(file("snap", one[:9], one[9:])), 0},
		{"a new file", list(file("snap.new", two, "")), api.Snap{}, nil, 1},
		{"a loose new file", list(file("snap.new", "", two)), api.Snap{}, nil, 1},
		{"an empty new file", list(file("snap.new", "", "")), api.Snap{}, nil, 1},
		{"both", list(file("snap", one, ""), file("snap.new", two, "")), s, list(file("snap", one, "")), 1},
		{"both, of which one is loose", list(file("snap", "", one), file("snap.new", "garbage", "x")), s, list(file("snap", "", one)), 1},
	} {
		d := with(t, x.files...)
		before := d.Steps()
		g := open(t, d)
		wantSnap(t, x.what, g, x.want)
		wantFiles(t, x.what, d, x.left...)
		if got := d.Steps() - before; got != x.steps {
			t.Errorf("%s: %d steps, want %d", x.what, got, x.steps)
		}
	}
	for _, s := range sound() {
		wantSnap(t, "any snapshot", open(t, with(t, file("snap", form(s), ""))), s)
	}
}

// P27.2: a file that does not encode a snapshot. The new file is removed first, as the chapter tells it.
func TestOpenForm(t *testing.T) {
	good := form(sized(5, 9))
	for _, b := range []string{"", "x", good + "x", good + good, good[1:], good[:len(good)-1], wrap(3, []byte(good[5:len(good)-3])), wrap(4, body("", 0, 1, 1, 0)), wrap(4, body("", end, 1, 1, 0)), wrap(4, body("", 1, 1, 2, 1, 0))} {
		for _, f := range list(file("snap", b, ""), file("snap", "", b)) {
			for _, more := range [][]disk.File{nil, list(file("snap.new", good, ""))} {
				d := with(t, append(more, f)...)
				before := d.Steps()
				if x, e := snapshot.Open(d); x != nil || e != api.ErrForm {
					t.Errorf("%q: %v, error %d", b, x, int(e))
				}
				wantFiles(t, "no snapshot", d, f)
				if got := d.Steps() - before; got != uint64(len(more)) {
					t.Errorf("%d steps", got)
				}
			}
		}
	}
}

// P27.2: the disk's error.
func TestOpenWithoutPower(t *testing.T) {
	for _, b := range []string{form(sized(5, 9)), "garbage"} {
		files := list(file("snap", b, ""), file("snap.new", "x", "y"))
		d := with(t, files...)
		ok(t, "Arm", d.Arm(0))
		if x, e := snapshot.Open(d); x != nil || e != api.ErrDown {
			t.Errorf("%v, error %d", x, int(e))
		}
		wantFiles(t, "without power", d, files...)
	}
}

// P27.2: what is returned is apart.
func TestGet(t *testing.T) {
	for _, s := range sound() {
		d := disk.New(api.MaxRoom)
		x := open(t, d)
		ok(t, "Save", x.Save(s))
		for _, x := range []*snapshot.Store{x, open(t, d)} {
			for range 3 {
				got, there := x.Get()
				if !there || !equal(got, s) {
					t.Errorf("%v, %t, want %v", short(got), there, short(s))
				}
				spoil(got)
			}
		}
	}
	if s, there := open(t, disk.New(0)).Get(); there || !zero(s) || s.Members != nil || s.Data != nil {
		t.Errorf("%v, %t", short(s), there)
	}
}

// P27.2: arguments are neither changed nor kept.
func TestSaveOfArgument(t *testing.T) {
	s, spare := roomy()
	d := disk.New(api.MaxRoom)
	x := open(t, d)
	ok(t, "Save", x.Save(s))
	if !spare() {
		t.Error("the argument was changed")
	}
	want := api.Snap{Index: 4, Term: 2, Members: []int{0, 2}, Data: []byte("data")}
	spoil(s)
	wantSnap(t, "after changes of the argument", x, want)
	wantSnap(t, "reopened", open(t, d), want)
}

// P27.2: each snapshot after each other one.
func TestSave(t *testing.T) {
	others := list(file("A", "a", "b"), file("L000000000000001", "x", ""))
	for _, was := range sound() {
		for _, s := range unsound() {
			d := with(t, file("snap", form(was), ""))
			rejected(t, "not sound", open(t, d), d, api.ErrArg, s)
			d = disk.New(api.MaxRoom)
			rejected(t, "not sound", open(t, d), d, api.ErrArg, s)
		}
		for _, s := range sound() {
			d := with(t, append(others, file("snap", form(was), ""))...)
			x := open(t, d)
			if s.Index <= was.Index {
				rejected(t, "an old one", x, d, api.ErrOld, s)
				continue
			}
			saved(t, "a new one", x, d, 3, s, others...)
			rejected(t, "the same", x, d, api.ErrOld, s)
			rejected(t, "the one before", x, d, api.ErrOld, was)
			rejected(t, "not sound", x, d, api.ErrArg, unsound()[0])
		}
	}
	for _, s := range sound() {
		d := with(t, others...)
		saved(t, "the first one", open(t, d), d, 3, s, others...)
	}
}

// P27.2: only the index counts, and a new file that was left is removed first.
func TestSaveIndex(t *testing.T) {
	d := with(t, file("zzz", "", "z"))
	x := open(t, d)
	for index := uint64(2); index < 40; index += 2 {
		s := api.Snap{Index: index, Term: 1 + index%3, Members: all()[index%4:], Data: bytes.Repeat([]byte("x"), int(1000/index))}
		steps := uint64(3)
		if index%4 == 0 {
			put(t, d, file("snap.new", "garbage", "more"))
			steps = 4
		}
		before := d.Steps()
		ok(t, "Save", x.Save(s))
		if got := d.Steps() - before; got != steps {
			t.Errorf("%d steps, want %d", got, steps)
		}
		wantFiles(t, "Save", d, file("snap", form(s), ""), file("zzz", "", "z"))
		wantSnap(t, "Save", x, s)
		for _, old := range []uint64{1, index - 1, index} {
			rejected(t, "an old index", x, d, api.ErrOld, api.Snap{Index: old, Term: api.MaxIndex, Members: []int{1}})
		}
	}
}

// P27.2: the power fails at each step of a Save.
func TestSaveWithoutPower(t *testing.T) {
	s, old := sized(7, 40), sized(5, 60)
	b := form(s)
	for _, x := range []struct {
		what   string
		was    api.Snap
		before []disk.File
		// left is what a new file has after so many steps.
		left []disk.File
	}{
		{"a first one", api.Snap{}, nil, list(file("snap.new", "", b), file("snap.new", "", b), file("snap.new", b, ""))},
		{"another one", old, list(file("snap", form(old), "")), list(file("snap.new", "", b), file("snap.new", "", b), file("snap.new", b, ""))},
		{"a new file that was left", old, list(file("snap", form(old), ""), file("snap.new", "x", "y")), list(file("snap.new", "x", "y"), file("snap.new", "", b), file("snap.new", "", b), file("snap.new", b, ""))},
	} {
		for n, left := range x.left {
			d := disk.New(api.MaxRoom)
			if !zero(x.was) {
				put(t, d, x.before[0])
			}
			g := open(t, d)
			if len(x.before) > 1 {
				put(t, d, x.before[1])
			}
			ok(t, "Arm", d.Arm(n))
			if e := g.Save(s); e != api.ErrDown {
				t.Errorf("%s, step %d: error %d", x.what, n, int(e))
			}
			wantSnap(t, x.what, g, x.was)
			want := list(left)
			if !zero(x.was) {
				want = slices.Insert(want, 0, x.before[0])
			}
			wantFiles(t, x.what, d, want...)
			rejected(t, x.what, g, d, api.ErrDown, s)
			rejected(t, x.what, g, d, api.ErrArg, unsound()[3])
			if !zero(x.was) {
				rejected(t, x.what, g, d, api.ErrOld, x.was)
			}
			ok(t, "Boot", d.Boot())
			saved(t, x.what, g, d, 4, s)
		}
	}
}

// P27.2: a full disk.
func TestSaveFull(t *testing.T) {
	s, old := sized(7, 40), sized(5, 60)
	room := len(form(old)) + len(form(s))
	d := with(t, file("snap", form(old), ""))
	x := open(t, d)
	ok(t, "Resize", d.Resize(room-1))
	rejected(t, "a byte too few", x, d, api.ErrFull, s)
	ok(t, "Resize", d.Resize(room))
	saved(t, "just enough", x, d, 3, s)
	// A new file that was left is removed even if there is no room for another one then.
	d = with(t, file("snap", form(old), ""))
	x = open(t, d)
	put(t, d, file("snap.new", "x", ""))
	ok(t, "Resize", d.Resize(0))
	if e := x.Save(s); e != api.ErrFull {
		t.Errorf("error %d", int(e))
	}
	wantSnap(t, "full", x, old)
	wantFiles(t, "full", d, file("snap", form(old), ""))
	// As many files as a disk can have.
	d = disk.New(api.MaxRoom)
	x = open(t, d)
	for n := range api.MaxFiles {
		put(t, d, file(string([]byte{'a', byte('0' + n)}), "x", ""))
	}
	rejected(t, "too many files", x, d, api.ErrFull, s)
	ok(t, "Remove", d.Remove("a0"))
	ok(t, "one file fewer", x.Save(s))
	wantSnap(t, "one file fewer", x, s)
}

// P27.2: stores that Open did not create.
func TestNoStore(t *testing.T) {
	for _, x := range []*snapshot.Store{nil, {}} {
		for _, s := range append(sound(), unsound()...) {
			if e := x.Save(s); e != api.ErrNil {
				t.Fatalf("Save of %v: error %d", short(s), int(e))
			}
		}
		if s, there := x.Get(); there || !zero(s) {
			t.Errorf("%v, %t", short(s), there)
		}
	}
}

// tears returns one tear for each file with loose bytes, which often leaves all of them.
func tears(d *disk.Disk, below func(n int) int) []disk.Tear {
	var l []disk.Tear
	for _, f := range d.Files() {
		n := len(f.Loose)
		if n == 0 {
			continue
		}
		keep := n
		if below(2) == 0 {
			keep = below(n + 1)
		}
		l = append(l, disk.Tear{Keep: uint16(keep), Turn: uint32(below(2) * below(1<<24))})
	}
	return l
}

// P27.3: after any crash the snapshot is the one that was saved last, or the one that was being saved; its index never decreases.
func TestCrashes(t *testing.T) {
	random := rand.New(rand.NewPCG(27, 3))
	before, after := 0, 0
	for range 300 {
		d := disk.New(api.MaxRoom)
		x := open(t, d)
		for range 40 {
			was, _ := x.Get()
			var s api.Snap
			ok(t, "Arm", d.Arm(random.IntN(20)))
			for n := 0; !d.Down(); n++ {
				if n > 1000 {
					t.Fatal("no call takes a step")
				}
				was, _ = x.Get()
				s = sized(was.Index+uint64(random.IntN(4)), random.IntN(300))
				x.Save(s)
			}
			ok(t, "Crash", d.Crash(tears(d, random.IntN)...))
			ok(t, "Boot", d.Boot())
			x = open(t, d)
			got, _ := x.Get()
			switch {
			case equal(got, was):
				before++
			case equal(got, s) && s.Index > was.Index:
				after++
			default:
				t.Fatalf("%v, want %v or %v", short(got), short(was), short(s))
			}
		}
	}
	// The last step is the Move, and where the power fails at it nothing is moved.
	if before < 10000 || after != 0 {
		t.Errorf("%d before, %d after", before, after)
	}
}

// P27.1 for arbitrary bodies and bytes, which have one snapshot at most; P27.2 for arbitrary files.
func FuzzRead(f *testing.F) {
	for _, s := range sound()[:10] {
		b := []byte(form(s))
		f.Add(b)
		f.Add(b[5 : len(b)-3])
	}
	f.Fuzz(func(t *testing.T, b []byte) {
		l := []string{string(b)}
		if len(b) <= api.MaxText {
			l = append(l, wrap(4, b))
		}
		for _, c := range l {
			s, there := snapshot.Read([]byte(c))
			back, e := snapshot.Bytes(s)
			switch {
			case there && (e != api.OK || string(back) != c || form(s) != c || !snapshot.Sound(s)):
				t.Errorf("%q is read as %v", c, short(s))
			case !there && !zero(s):
				t.Errorf("%q is not read, but %v", c, short(s))
			}
			d := disk.New(api.MaxRoom)
			if d.Append("snap", []byte(c)) != api.OK {
				return
			}
			x, e := snapshot.Open(d)
			if there != (e == api.OK) {
				t.Errorf("%q: error %d", c, int(e))
				return
			}
			wantSnap(t, "any file", x, s)
		}
	})
}
