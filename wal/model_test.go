package wal_test

import (
	"bytes"
	"math"
	"math/rand/v2"
	"slices"
	"testing"

	"curfew/api"
	"curfew/disk"
	"curfew/segment"
	"curfew/wal"
)

// model is a log that is written down as the chapter tells it. It keeps no entries, but reads its disk whenever it needs them.
type model struct {
	d *disk.Disk
	// next is where the log begins if there are no files.
	next, safe uint64
}

// stored is a file with a segment name.
type stored struct {
	disk.File
	// named is the index in its name, first that in its head.
	named, first uint64
	l            []api.Entry
	whole        bool
}

func (f stored) size() int { return len(f.Kept) + len(f.Loose) }

// end returns the index after the last entry.
func (f stored) end() uint64 { return f.named + uint64(len(f.l)) }

// files returns the segments in order.
func (m *model) files() []stored {
	var all []stored
	for _, f := range m.d.Files() {
		named, is := segment.First(f.Name)
		if !is {
			continue
		}
		b := slices.Concat(f.Kept, f.Loose)
		first, l, good := segment.Read(b)
		all = append(all, stored{File: f, named: named, first: first, l: l, whole: good == len(b)})
	}
	return all
}

func (m *model) first() uint64 {
	for _, f := range m.files() {
		return f.named
	}
	return m.next
}

func (m *model) last() uint64 {
	last := m.next - 1
	for _, f := range m.files() {
		last = f.end() - 1
	}
	return last
}

func (m *model) entries() []api.Entry {
	var all []api.Entry
	for _, f := range m.files() {
		all = append(all, f.l...)
	}
	return all
}

// form reports whether the files are those of a log.
func (m *model) form() bool {
	l := m.files()
	n := len(l)
	if n > 0 && l[n-1].first != l[n-1].named {
		n--
	}
	for i, f := range l[:n] {
		switch {
		case f.first != f.named:
			return false
		case i < len(l)-1 && !f.whole:
			return false
		case i > 0 && f.first != l[i-1].end():
			return false
		}
	}
	return true
}

// open opens the model's disk.
func (m *model) open(base uint64) api.Errno {
	switch {
	case m.d.Down():
		return api.ErrDown
	case base >= highest:
		return api.ErrArg
	case !m.form():
		return api.ErrForm
	}
	l := m.files()
	if n := len(l); n > 0 && l[n-1].first != l[n-1].named {
		if e := m.d.Remove(l[n-1].Name); e != api.OK {
			return e
		}
		l = l[:n-1]
	}
	if n := len(l); n > 0 {
		f := l[n-1]
		good := len(part(f.first, f.l...))
		if good < f.size() {
			if e := m.d.Cut(f.Name, good); e != api.OK {
				return e
			}
		}
		if e := m.d.Sync(f.Name); e != api.OK {
			return e
		}
	}
	m.next = base + 1
	switch {
	case len(l) == 0 || m.last() < base:
		return m.reset(base)
	case l[0].first > base+1:
		return api.ErrForm
	}
	m.safe = m.last()
	return api.OK
}

func (m *model) append(l []api.Entry) api.Errno {
	for _, e := range l {
		if !segment.Sound(e) {
			return api.ErrArg
		}
	}
	last, files := m.last(), m.files()
	switch {
	case last+uint64(len(l)) > highest:
		return api.ErrBig
	case len(l) == 0:
		return api.OK
	}
	if len(files) > 0 {
		f := files[len(files)-1]
		if f.size() < 1024 {
			return m.d.Append(f.Name, []byte(lines(last+1, l...)))
		}
		if len(f.Loose) > 0 {
			if e := m.d.Sync(f.Name); e != api.OK {
				return e
			}
		}
	}
	e := m.d.Append(segment.Name(last+1), []byte(part(last+1, l...)))
	if e == api.OK {
		m.safe = last
	}
	return e
}

func (m *model) sync() api.Errno {
	files := m.files()
	if len(files) > 0 && len(files[len(files)-1].Loose) > 0 {
		if e := m.d.Sync(files[len(files)-1].Name); e != api.OK {
			return e
		}
	}
	m.safe = m.last()
	return api.OK
}

// removed removes a file, and has an empty log begin where it began.
func (m *model) removed(f stored) api.Errno {
	e := m.d.Remove(f.Name)
	if e == api.OK && len(m.files()) == 0 {
		m.next = f.named
	}
	return e
}

func (m *model) cut(from uint64) api.Errno {
	if from < m.first() || from > m.last()+1 {
		return api.ErrArg
	}
	for _, f := range slices.Backward(m.files()) {
		var e api.Errno
		switch {
		case f.named >= from:
			e = m.removed(f)
		case f.end() > from:
			e = m.d.Cut(f.Name, len(part(f.named, f.l[:from-f.named]...)))
		}
		m.safe = min(m.safe, m.last())
		if e != api.OK {
			return e
		}
	}
	return api.OK
}

func (m *model) drop(upto uint64) api.Errno {
	if upto > m.last() {
		return api.ErrArg
	}
	files := m.files()
	for i, f := range files {
		if i == len(files)-1 || f.end()-1 > upto {
			return api.OK
		}
		if e := m.d.Remove(f.Name); e != api.OK {
			return e
		}
	}
	return api.OK
}

func (m *model) reset(base uint64) api.Errno {
	if base >= highest {
		return api.ErrArg
	}
	for _, f := range slices.Backward(m.files()) {
		if e := m.removed(f); e != api.OK {
			return e
		}
		m.safe = min(m.safe, m.last())
	}
	m.next, m.safe = base+1, base
	return api.OK
}

// pair is a log and its model, on disks of their own.
type pair struct {
	t testing.TB
	d *disk.Disk
	l *wal.Log
	m *model
}

// pairOf returns a pair on disks with these files.
func pairOf(t testing.TB, room int, files ...disk.File) *pair {
	p := &pair{t: t, d: disk.New(api.MaxRoom), m: &model{d: disk.New(api.MaxRoom)}}
	p.disks(func(d *disk.Disk) {
		for _, f := range files {
			d.Append(f.Name, f.Kept)
			d.Sync(f.Name)
			d.Append(f.Name, f.Loose)
		}
		d.Resize(room)
	})
	return p
}

// disks does the same to both disks.
func (p *pair) disks(f func(d *disk.Disk)) {
	f(p.d)
	f(p.m.d)
}

// same compares errors, and then all that can be told of the two.
func (p *pair) same(what string, got, want api.Errno) {
	p.t.Helper()
	if got != want {
		p.t.Fatalf("%s: error %d, want %d", what, int(got), int(want))
	}
	if !equalFiles(p.d.Files(), p.m.d.Files()) || p.d.Steps() != p.m.d.Steps() || p.d.Down() != p.m.d.Down() {
		p.t.Fatalf("%s: %d steps to %d files, want %d steps to %d files", what, p.d.Steps(), len(p.d.Files()), p.m.d.Steps(), len(p.m.d.Files()))
	}
	// Without power the model may see what an Append has left behind.
	if p.l == nil || p.d.Down() {
		return
	}
	if p.l.First() != p.m.first() || p.l.Last() != p.m.last() || p.l.Safe() != p.m.safe {
		p.t.Fatalf("%s: First %d, Last %d, Safe %d, want %d, %d, %d", what, p.l.First(), p.l.Last(), p.l.Safe(), p.m.first(), p.m.last(), p.m.safe)
	}
	if !segment.Same(p.l.From(0, math.MaxInt), p.m.entries()) {
		p.t.Fatalf("%s: other entries", what)
	}
}

// open opens both.
func (p *pair) open(base uint64) api.Errno {
	p.t.Helper()
	l, e := wal.Open(p.d, base)
	p.l = l
	p.same("Open", e, p.m.open(base))
	if (l == nil) != (e != api.OK) {
		p.t.Fatalf("Open: %v, error %d", l, int(e))
	}
	return e
}

// call makes a call that is made of random numbers.
func (p *pair) call(below func(n int) int) {
	p.t.Helper()
	// Mostly between First and Last, sometimes beside them.
	index := func() uint64 { return p.l.First() - 2 + uint64(below(int(p.l.Last()-p.l.First())+5)) }
	switch below(16) {
	case 0, 1, 2, 3, 4, 5:
		l := anyEntries(below)
		p.same("Append", p.l.Append(l...), p.m.append(l))
	case 6, 7:
		p.same("Sync", p.l.Sync(), p.m.sync())
	case 8, 9:
		from := index()
		p.same("Cut", p.l.Cut(from), p.m.cut(from))
	case 10, 11:
		upto := index()
		p.same("Drop", p.l.Drop(upto), p.m.drop(upto))
	case 12:
		base := []uint64{0, 3, 7, 100, highest - 8, highest - 1, highest}[below(7)]
		if below(3) == 0 {
			p.same("Reset", p.l.Reset(base), p.m.reset(base))
		}
	case 13:
		steps := below(5)
		p.disks(func(d *disk.Disk) { d.Arm(steps) })
	case 14:
		room := []int{api.MaxRoom, api.MaxRoom, 4000, 0}[below(4)]
		p.disks(func(d *disk.Disk) { d.Resize(room) })
	case 15:
		p.reopen(below, index())
	}
	if p.d.Down() {
		p.reopen(below, p.l.First()-1)
	}
}

// reopen crashes the disks, or leaves them as they are, and opens the log with a base that it can have.
func (p *pair) reopen(below func(n int) int, base uint64) {
	p.t.Helper()
	if p.d.Down() || below(2) == 0 {
		var l []disk.Tear
		for range below(3) {
			l = append(l, disk.Tear{Keep: uint16(below(1 << 11)), Turn: uint32(below(2) * below(1<<24))})
		}
		p.disks(func(d *disk.Disk) {
			d.Crash(l...)
			d.Boot()
		})
	}
	old := p.l
	if p.open(base) == api.OK {
		return
	}
	// Opened with a base that is too low; or the power failed, which Open does not survive.
	p.disks(func(d *disk.Disk) { d.Boot() })
	p.open(old.First() - 1)
}

// anyEntries returns entries that are made of random numbers, seldom one that is not sound.
func anyEntries(below func(n int) int) []api.Entry {
	var l []api.Entry
	for range below(4) {
		size := below(30)
		switch below(6) {
		case 0:
			size = below(1200)
		case 1:
			size = 1000 - below(60)
		}
		e := api.Entry{Term: 1 + uint64(below(300)), Kind: 1 + below(3), Data: bytes.Repeat([]byte{byte(below(256))}, size)}
		if below(60) == 0 {
			e.Kind = 4
		}
		l = append(l, e)
	}
	return l
}

// P25.1 to P25.3: any calls.
func TestAnyCalls(t *testing.T) {
	random := rand.New(rand.NewPCG(25, 1))
	for range 150 {
		p := pairOf(t, api.MaxRoom, file("A", "a", "b"), file("vow", "", "v"))
		ok(t, "Open", p.open([]uint64{0, 5, highest - 20}[random.IntN(3)]))
		for range 120 {
			p.call(random.IntN)
			if p.l == nil {
				t.Fatal("a log that was open can't be opened")
			}
		}
	}
}

// anyFiles returns files as no log leaves them, but nearly.
func anyFiles(below func(n int) int) []disk.File {
	var all []disk.File
	next := uint64(1 + below(4))
	for n := below(4); len(all) < n; {
		l := entries(below(4))
		b := []byte(part(next, l...))
		name := next
		next += uint64(len(l))
		switch below(12) {
		case 0:
			b = b[:below(len(b)+1)]
		case 1:
			b[below(len(b))] ^= byte(1 + below(255))
		case 2:
			b = append(b, lines(next, sized(9))[:below(12)]...)
		case 3:
			name += uint64(below(3)) - 1
		case 4:
			next += uint64(below(3)) - 1
		}
		split := len(b)
		if below(3) == 0 {
			split = below(len(b) + 1)
		}
		next, name = max(next, 1), max(name, 1)
		if slices.ContainsFunc(all, func(f disk.File) bool { return f.Name == segment.Name(name) }) {
			break
		}
		all = append(all, file(segment.Name(name), string(b[:split]), string(b[split:])))
	}
	return all
}

// P25.1: any files.
func TestOpenAnyFiles(t *testing.T) {
	random := rand.New(rand.NewPCG(25, 2))
	good, bad := 0, 0
	for range 6000 {
		p := pairOf(t, api.MaxRoom, anyFiles(random.IntN)...)
		if random.IntN(4) == 0 {
			steps := random.IntN(5)
			p.disks(func(d *disk.Disk) { d.Arm(steps) })
		}
		switch p.open(uint64(random.IntN(8))) {
		case api.OK:
			good++
		case api.ErrForm:
			bad++
		}
	}
	if good < 1000 || bad < 1000 {
		t.Errorf("%d good, %d bad", good, bad)
	}
}

// use makes calls until the power fails, or some have been made. It returns the entries of an Append at which it failed.
func use(d *disk.Disk, g *wal.Log, below func(n int) int) []api.Entry {
	for range below(12) {
		var l []api.Entry
		switch below(8) {
		case 0, 1, 2, 3:
			l = anyEntries(below)
			g.Append(l...)
		case 4, 5:
			g.Sync()
		case 6:
			g.Cut(g.First() + uint64(below(int(g.Last()+2-g.First()))))
		case 7:
			g.Drop(g.First() + uint64(below(3)))
		}
		if d.Down() {
			return l
		}
	}
	return nil
}

// crash lets any of the loose bytes be lost, and often none.
func crash(d *disk.Disk, below func(n int) int) {
	var l []disk.Tear
	for _, f := range d.Files() {
		if n := len(f.Loose); n > 0 {
			keep := n
			if below(2) == 0 {
				keep = below(n + 1)
			}
			l = append(l, disk.Tear{Keep: uint16(keep), Turn: uint32(below(2) * below(1<<24))})
		}
	}
	d.Crash(l...)
	d.Boot()
}

// P25.4: after any crash all that was safe is there, then none, some or all of what was written after it, and nothing else.
func TestSafeSurvives(t *testing.T) {
	random := rand.New(rand.NewPCG(25, 4))
	lost, partly, whole := 0, 0, 0
	for range 500 {
		d, base := disk.New(api.MaxRoom), uint64(random.IntN(3))
		for range 12 {
			g := open(t, d, base)
			if random.IntN(2) == 0 {
				d.Arm(random.IntN(14))
			}
			adding := use(d, g, random.IntN)
			all := append(g.From(0, math.MaxInt), adding...)
			first, safe, end := g.First(), g.Safe(), g.First()+uint64(len(all))-1
			crash(d, random.IntN)
			base = first - 1
			g = open(t, d, base)
			got := g.From(0, math.MaxInt)
			if g.First() != first || g.Last() < safe || len(got) > len(all) || !segment.Same(got, all[:len(got)]) {
				t.Fatalf("First %d, Last %d, want First %d, Last %d to %d", g.First(), g.Last(), first, safe, end)
			}
			switch {
			case safe == end:
			case g.Last() == safe:
				lost++
			case g.Last() < end:
				partly++
			default:
				whole++
			}
		}
	}
	if lost < 100 || partly < 100 || whole < 100 {
		t.Errorf("%d lost, %d partly, %d whole", lost, partly, whole)
	}
}

// numbers returns random numbers that are made of arbitrary bytes.
func numbers(b *[]byte) func(n int) int {
	return func(n int) int {
		x := 0
		for bound := 1; bound < n; bound <<= 8 {
			if len(*b) > 0 {
				x, *b = x<<8|int((*b)[0]), (*b)[1:]
			}
		}
		return x % n
	}
}

// P25.1 to P25.3 for files and calls that are made of arbitrary bytes.
func FuzzLog(f *testing.F) {
	f.Add([]byte("0123456789"))
	f.Add(bytes.Repeat([]byte{2, 0, 3, 1, 2, 200, 1, 6, 8, 13}, 30))
	f.Fuzz(func(t *testing.T, b []byte) {
		// The model reads its disk at each call.
		b = b[:min(len(b), 600)]
		below := numbers(&b)
		p := pairOf(t, api.MaxRoom, anyFiles(below)...)
		if p.open(uint64(below(8))) != api.OK {
			return
		}
		// Files that were loose when they were found may be gone after a crash.
		for p.l != nil && len(b) > 0 {
			p.call(below)
		}
	})
}
