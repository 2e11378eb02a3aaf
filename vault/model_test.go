package vault_test

import (
	"bytes"
	"math"
	"math/rand/v2"
	"slices"
	"testing"

	"curfew/api"
	"curfew/disk"
	"curfew/segment"
	"curfew/snapshot"
	"curfew/vault"
	"curfew/vow"
	"curfew/wal"
)

// model is a vault that is written down as the chapter tells it, with three stores on a disk.
type model struct {
	d      *disk.Disk
	book   *vow.Book
	store  *snapshot.Store
	log    *wal.Log
	broken bool
}

// base returns the position of the snapshot.
func (m *model) base() (uint64, uint64) {
	s, _ := m.store.Get()
	return s.Index, s.Term
}

// same reports whether the log has the entry at an index, and whether that has this term.
func (m *model) same(index, term uint64) (there, equal bool) {
	x, there := m.log.At(index)
	return there, there && x.Term == term
}

func (m *model) open() api.Errno {
	*m = model{d: m.d}
	var e api.Errno
	if m.book, e = vow.Open(m.d); e != api.OK {
		return e
	}
	if m.store, e = snapshot.Open(m.d); e != api.OK {
		return e
	}
	index, term := m.base()
	if m.log, e = wal.Open(m.d, index); e != api.OK {
		return e
	}
	if there, equal := m.same(index, term); there && !equal {
		return m.log.Reset(index)
	}
	return api.OK
}

// told notes that the disk has said that there is no power.
func (m *model) told(e api.Errno) api.Errno {
	if e == api.ErrDown {
		m.broken = true
	}
	return e
}

func (m *model) keep(s vow.State) api.Errno {
	if m.broken {
		return api.ErrDown
	}
	return m.told(m.book.Keep(s))
}

func (m *model) append(l []api.Entry) api.Errno {
	if m.broken {
		return api.ErrDown
	}
	if e := m.told(m.log.Append(l...)); e != api.OK {
		return e
	}
	return m.told(m.log.Sync())
}

func (m *model) cut(from uint64) api.Errno {
	if m.broken {
		return api.ErrDown
	}
	if index, _ := m.base(); from <= index {
		return api.ErrArg
	}
	return m.told(m.log.Cut(from))
}

func (m *model) save(s api.Snap) api.Errno {
	if m.broken {
		return api.ErrDown
	}
	if e := m.told(m.store.Save(s)); e != api.OK {
		return e
	}
	if _, equal := m.same(s.Index, s.Term); equal {
		return m.told(m.log.Drop(s.Index))
	}
	return m.told(m.log.Reset(s.Index))
}

// pair is a vault and its model, on disks of their own.
type pair struct {
	t testing.TB
	d *disk.Disk
	v *vault.Vault
	m *model
}

// pairOf returns a pair on disks with these files.
func pairOf(t testing.TB, files ...disk.File) *pair {
	return &pair{t: t, d: with(t, files...), m: &model{d: with(t, files...)}}
}

// disks does the same to both disks.
func (p *pair) disks(f func(d *disk.Disk)) {
	f(p.d)
	f(p.m.d)
}

// same compares errors, and then all that can be told of the two.
func (p *pair) same(what string, got, want api.Errno) {
	p.t.Helper()
	if got != want {
		p.t.Fatalf("%s: error %d, want %d", what, int(got), int(want))
	}
	if !equalFiles(p.d.Files(), p.m.d.Files()) || p.d.Steps() != p.m.d.Steps() || p.d.Down() != p.m.d.Down() {
		p.t.Fatalf("%s: %d steps to %d files, want %d steps to %d files", what, p.d.Steps(), len(p.d.Files()), p.m.d.Steps(), len(p.m.d.Files()))
	}
	if p.v == nil {
		return
	}
	s, _ := p.m.store.Get()
	wantVault(p.t, what, p.v, has{p.m.book.State(), s, p.m.log.First(), p.m.log.From(0, math.MaxInt)})
	if p.v.Broken() != p.m.broken {
		p.t.Errorf("%s: broken %t, want %t", what, p.v.Broken(), p.m.broken)
	}
	// P28.3, as long as it is not broken.
	if !p.m.broken && (p.v.First() > p.v.Base()+1 || p.v.Last() < p.v.Base()) {
		p.t.Errorf("%s: First %d, Last %d, base %d", what, p.v.First(), p.v.Last(), p.v.Base())
	}
	if p.t.Failed() {
		p.t.FailNow()
	}
}

// open opens both.
func (p *pair) open() api.Errno {
	p.t.Helper()
	v, e := vault.Open(p.d)
	p.v = v
	p.same("Open", e, p.m.open())
	if (v == nil) != (e != api.OK) {
		p.t.Fatalf("Open: %v, error %d", v, int(e))
	}
	return e
}

// call makes a call that is made of random numbers.
func (p *pair) call(below func(n int) int) {
	p.t.Helper()
	switch below(16) {
	case 0, 1:
		s := anyState(p.v.State(), below)
		p.same("Keep", p.v.Keep(s), p.m.keep(s))
	case 2, 3, 4, 5, 6, 7:
		l := anyEntries(below)
		p.same("Append", p.v.Append(l...), p.m.append(l))
	case 8, 9:
		from := p.v.Base() - 1 + uint64(below(int(min(p.v.Last()-p.v.Base(), 100))+4))
		p.same("Cut", p.v.Cut(from), p.m.cut(from))
	case 10, 11:
		s := anySnap(p.v, below)
		p.same("Save", p.v.Save(s), p.m.save(s))
	case 12, 13:
		steps := below(8)
		p.disks(func(d *disk.Disk) { d.Arm(steps) })
	case 14:
		room := []int{api.MaxRoom, api.MaxRoom, 5000, 0}[below(4)]
		p.disks(func(d *disk.Disk) { d.Resize(room) })
	case 15:
		p.reopen(below)
	}
	// Broken vaults are used on for a while.
	if p.d.Down() && below(3) == 0 {
		p.reopen(below)
	}
}

// reopen crashes the disks, or leaves them as they are, and opens the vault.
func (p *pair) reopen(below func(n int) int) {
	p.t.Helper()
	if p.d.Down() || below(2) == 0 {
		l := anyTears(p.d, below)
		p.disks(func(d *disk.Disk) {
			d.Crash(l...)
			d.Boot()
		})
	}
	if p.open() == api.OK {
		return
	}
	// The power failed, which Open does not survive.
	p.disks(func(d *disk.Disk) { d.Boot() })
	if e := p.open(); e != api.OK {
		p.t.Fatalf("a vault that was open can't be opened: error %d", int(e))
	}
}

// anyState returns a state that may follow was, or nearly.
func anyState(was vow.State, below func(n int) int) vow.State {
	return vow.State{Term: was.Term - 1 + uint64(below(4)), Vote: below(api.MaxNodes+2) - 1}
}

// anyEntries returns entries that are made of random numbers, seldom one that is not sound.
func anyEntries(below func(n int) int) []api.Entry {
	var l []api.Entry
	for range below(4) {
		size := below(40)
		if below(4) == 0 {
			size = below(1200)
		}
		e := api.Entry{Term: 1 + uint64(below(3)), Kind: 1 + below(3), Data: bytes.Repeat([]byte{byte(below(256))}, size)}
		if below(40) == 0 {
			e.Kind = 4
		}
		l = append(l, e)
	}
	return l
}

// anySnap returns a snapshot that a vault can save, or nearly. Often its term is that of its entry.
func anySnap(v *vault.Vault, below func(n int) int) api.Snap {
	index := v.Base() + uint64(below(int(min(v.Last()-v.Base(), 100))+3))
	term, known := v.Term(index)
	if !known || below(4) == 0 {
		term = uint64(below(4))
	}
	return api.Snap{Index: index, Term: term, Members: []int{below(3), 3 + below(4)}, Data: bytes.Repeat([]byte("s"), below(50))}
}

// anyTears returns one tear for each file with loose bytes, which often leaves all of them.
func anyTears(d *disk.Disk, below func(n int) int) []disk.Tear {
	var l []disk.Tear
	for _, f := range d.Files() {
		n := len(f.Loose)
		if n == 0 {
			continue
		}
		keep := n
		if below(2) == 0 {
			keep = below(n + 1)
		}
		l = append(l, disk.Tear{Keep: uint16(keep), Turn: uint32(below(2) * below(1<<24))})
	}
	return l
}

// P28.1 to P28.3: any calls.
func TestAnyCalls(t *testing.T) {
	random := rand.New(rand.NewPCG(28, 1))
	for range 200 {
		p := pairOf(t, file("A", "a", "b"))
		ok(t, "Open", p.open())
		for range 150 {
			p.call(random.IntN)
		}
	}
}

// anyFiles returns files as no vault leaves them, but nearly.
func anyFiles(below func(n int) int) []disk.File {
	var l []disk.File
	next := uint64(1 + below(3))
	for range below(4) {
		e := entries(1 + below(3))
		l = append(l, kept(next, e...))
		next += uint64(len(e))
	}
	if below(4) > 0 {
		l = append(l, shot(snap(1+uint64(below(9)), 1+uint64(below(3)))))
	}
	if below(2) == 0 {
		l = append(l, vowed(fresh, vow.State{Term: uint64(below(3)), Vote: below(3)}))
	}
	if below(4) == 0 {
		l = append(l, file("snap.new", "x", "y"), file("vow.new", "x", ""))
	}
	for i, f := range l {
		// What is loose, and what is spoilt.
		n := len(f.Kept)
		if below(2) == 0 {
			n = below(n + 1)
		}
		l[i].Kept, l[i].Loose = f.Kept[:n:n], f.Kept[n:]
		if below(12) == 0 {
			l[i].Loose = append(l[i].Loose, "more"...)
		}
	}
	return l
}

// P28.1: any files.
func TestOpenAnyFiles(t *testing.T) {
	random := rand.New(rand.NewPCG(28, 2))
	good, bad, down := 0, 0, 0
	for range 6000 {
		p := pairOf(t, anyFiles(random.IntN)...)
		if random.IntN(4) == 0 {
			steps := random.IntN(6)
			p.disks(func(d *disk.Disk) { d.Arm(steps) })
		}
		switch p.open() {
		case api.OK:
			good++
		case api.ErrForm:
			bad++
		case api.ErrDown:
			down++
		}
	}
	if good < 1000 || bad < 1000 || down < 300 {
		t.Errorf("%d good, %d bad, %d without power", good, bad, down)
	}
}

// after is what a vault has above its base.
type after struct {
	state vow.State
	snap  api.Snap
	l     []api.Entry
}

// above returns what a vault has above its base, in which nothing is missing.
func above(t *testing.T, v *vault.Vault) after {
	t.Helper()
	s, _ := v.Get()
	if v.First() > s.Index+1 || v.Last() < s.Index || v.Base() != s.Index {
		t.Fatalf("First %d, Last %d, base %d and %d", v.First(), v.Last(), v.Base(), s.Index)
	}
	l := v.From(s.Index+1, math.MaxInt)
	if uint64(len(l)) != v.Last()-s.Index {
		t.Fatalf("%d entries from %d to %d", len(l), s.Index+1, v.Last())
	}
	return after{v.State(), s, l}
}

// saved returns what there is once a snapshot is saved.
func (a after) saved(s api.Snap) after {
	n := s.Index - a.snap.Index
	if n > uint64(len(a.l)) || a.l[n-1].Term != s.Term {
		return after{a.state, s, nil}
	}
	return after{a.state, s, a.l[n:]}
}

func (a after) is(b after) bool {
	return a.state == b.state && snapshot.Same(a.snap, b.snap) && segment.Same(a.l, b.l)
}

// use makes a random change, and returns what there may be if it is done in part, and in the end what there is if it is done.
func use(v *vault.Vault, was after, below func(n int) int) (api.Errno, []after) {
	parts := []after{was}
	switch below(8) {
	case 0:
		next := was
		next.state = vow.State{Term: was.state.Term + 1, Vote: below(3)}
		return v.Keep(next.state), append(parts, next)
	case 1, 2, 3, 4:
		l := slices.DeleteFunc(anyEntries(below), func(e api.Entry) bool { return !segment.Sound(e) })
		for i := range l {
			next := was
			next.l = append(slices.Clone(was.l), l[:i+1]...)
			parts = append(parts, next)
		}
		return v.Append(l...), parts
	case 5:
		n := below(len(was.l) + 1)
		for i := len(was.l) - 1; i >= n; i-- {
			next := was
			next.l = was.l[:i]
			parts = append(parts, next)
		}
		return v.Cut(was.snap.Index + 1 + uint64(n)), parts
	}
	s := anySnap(v, below)
	s.Index, s.Term = max(s.Index, was.snap.Index+1), max(s.Term, 1)
	return v.Save(s), append(parts, was.saved(s))
}

// P28.4: after any crash there is what was there before the operation in progress, or after it, or a part of it.
func TestCrashes(t *testing.T) {
	random := rand.New(rand.NewPCG(28, 4))
	none, part, whole := 0, 0, 0
	for range 400 {
		d := disk.New(api.MaxRoom)
		v := open(t, d)
		was := above(t, v)
		for range 12 {
			ok(t, "Arm", d.Arm(random.IntN(40)))
			parts := []after{was}
			for n := 0; n < 1000 && !d.Down(); n++ {
				var e api.Errno
				e, parts = use(v, was, random.IntN)
				if e != api.OK {
					break
				}
				was = parts[len(parts)-1]
				if got := above(t, v); !got.is(was) {
					t.Fatalf("%+v, want %+v", got, was)
				}
			}
			if !d.Down() || !v.Broken() {
				t.Fatal("an error with power, or no call takes a step")
			}
			ok(t, "Crash", d.Crash(anyTears(d, random.IntN)...))
			ok(t, "Boot", d.Boot())
			v = open(t, d)
			got := above(t, v)
			i := slices.IndexFunc(parts, got.is)
			switch i {
			case -1:
				t.Fatalf("%+v, want one of %+v", got, parts)
			case 0:
				none++
			case len(parts) - 1:
				whole++
			default:
				part++
			}
			was = got
		}
	}
	if none < 500 || part < 200 || whole < 500 {
		t.Errorf("%d times nothing, %d times a part, %d times all", none, part, whole)
	}
}

// numbers returns random numbers that are made of arbitrary bytes.
func numbers(b *[]byte) func(n int) int {
	return func(n int) int {
		x := 0
		for bound := 1; bound < n; bound <<= 8 {
			if len(*b) > 0 {
				x, *b = x<<8|int((*b)[0]), (*b)[1:]
			}
		}
		return x % n
	}
}

// P28.1 to P28.3 for files and calls that are made of arbitrary bytes.
func FuzzVault(f *testing.F) {
	f.Add([]byte("0123456789"))
	f.Add(bytes.Repeat([]byte{2, 0, 3, 1, 2, 200, 1, 6, 8, 13}, 30))
	f.Fuzz(func(t *testing.T, b []byte) {
		b = b[:min(len(b), 600)]
		below := numbers(&b)
		p := pairOf(t, anyFiles(below)...)
		if p.open() != api.OK {
			return
		}
		// Loose files that the log did not sync would be gone after a crash.
		p.disks(func(d *disk.Disk) {
			for _, name := range d.Names() {
				d.Sync(name)
			}
		})
		for len(b) > 0 {
			p.call(below)
		}
	})
}
