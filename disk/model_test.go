package disk_test

import (
	"bytes"
	"math/rand/v2"
	"slices"
	"strings"
	"testing"

	"curfew/api"
	"curfew/disk"
)

// What a call may be.
const (
	doAppend = iota
	doSync
	doCut
	doRemove
	doMove
	doRead
	doResize
	doArm
	doCrash
	doBoot
	calls
)

// call is one of a disk, with its arguments.
type call struct {
	kind     int
	name, to string
	b        []byte
	n        int
	tears    []disk.Tear
}

// do makes the call at a disk.
func (c call) do(d *disk.Disk) ([]byte, api.Errno) {
	switch c.kind {
	case doAppend:
		return nil, d.Append(c.name, c.b)
	case doSync:
		return nil, d.Sync(c.name)
	case doCut:
		return nil, d.Cut(c.name, c.n)
	case doRemove:
		return nil, d.Remove(c.name)
	case doMove:
		return nil, d.Move(c.name, c.to)
	case doRead:
		return d.Read(c.name)
	case doResize:
		return nil, d.Resize(c.n)
	case doArm:
		return nil, d.Arm(c.n)
	case doCrash:
		return nil, d.Crash(c.tears...)
	}
	return nil, d.Boot()
}

// model is a disk that is written down as the chapter tells it, with its files in the order of names.
type model struct {
	room  int
	files []disk.File
	steps uint64
	down  bool
	// left is the number of steps before that at which the power fails, or -1.
	left int
}

// place returns where a file is or belongs.
func (m *model) place(name string) (int, bool) {
	return slices.BinarySearchFunc(m.files, name, func(f disk.File, name string) int { return strings.Compare(f.Name, name) })
}

func (m *model) free() int {
	n := m.room
	for _, f := range m.files {
		n -= len(f.Kept) + len(f.Loose)
	}
	return max(n, 0)
}

// error returns that of a call, apart from a failing power.
func (m *model) error(c call) api.Errno {
	i, there := m.place(c.name)
	switch {
	case c.kind == doCrash || c.kind == doBoot:
		return api.OK
	case m.down:
		return api.ErrDown
	case c.kind == doAppend && (len(c.name) == 0 || len(c.name) > api.MaxName):
		return api.ErrArg
	case c.kind == doAppend && (!there && len(m.files) == api.MaxFiles || len(c.b) > m.free()):
		return api.ErrFull
	case c.kind >= doSync && c.kind <= doRead && !there:
		return api.ErrNone
	case c.kind == doCut && (c.n < 0 || c.n > len(m.files[i].Kept)+len(m.files[i].Loose)):
		return api.ErrArg
	case c.kind == doMove && (len(c.to) == 0 || len(c.to) > api.MaxName):
		return api.ErrArg
	case c.kind == doResize && (c.n < 0 || c.n > api.MaxRoom):
		return api.ErrArg
	case c.kind == doArm && c.n < 0:
		return api.ErrArg
	}
	return api.OK
}

// do makes the call at the model, at which the power may fail.
func (m *model) do(c call) ([]byte, api.Errno) {
	if e := m.error(c); e != api.OK {
		return nil, e
	}
	if c.kind > doMove {
		return m.effect(c), api.OK
	}
	m.steps++
	fails := m.left == 0
	m.left = max(m.left-1, -1)
	if !fails || c.kind == doAppend {
		m.effect(c)
	}
	if fails {
		m.down = true
		return nil, api.ErrDown
	}
	return nil, api.OK
}

// effect is that of a call without an error, and what it returns.
func (m *model) effect(c call) []byte {
	i, there := m.place(c.name)
	switch c.kind {
	case doRead:
		return slices.Concat(m.files[i].Kept, m.files[i].Loose)
	case doResize:
		m.room = c.n
	case doArm:
		m.left = c.n
	case doBoot:
		m.down, m.left = false, -1
	case doCrash:
		m.crash(c.tears)
	case doAppend:
		if !there {
			m.files = slices.Insert(m.files, i, disk.File{Name: c.name})
		}
		m.files[i].Loose = slices.Concat(m.files[i].Loose, c.b)
	default:
		m.change(i, c)
	}
	return nil
}

// change does what a call does to the file at i, which exists.
func (m *model) change(i int, c call) {
	f := m.files[i]
	switch c.kind {
	case doSync:
		m.files[i] = disk.File{Name: f.Name, Kept: slices.Concat(f.Kept, f.Loose)}
	case doCut:
		if c.n <= len(f.Kept) {
			m.files[i] = disk.File{Name: f.Name, Kept: f.Kept[:c.n]}
		} else {
			m.files[i].Loose = f.Loose[:c.n-len(f.Kept)]
		}
	case doRemove:
		m.files = slices.Delete(m.files, i, i+1)
	case doMove:
		if c.to == c.name {
			return
		}
		m.files = slices.Delete(m.files, i, i+1)
		f.Name = c.to
		j, there := m.place(c.to)
		if there {
			m.files[j] = f
		} else {
			m.files = slices.Insert(m.files, j, f)
		}
	}
}

func (m *model) crash(tears []disk.Tear) {
	m.down = true
	var left []disk.File
	used := 0
	for _, f := range m.files {
		if len(f.Loose) > 0 {
			tear := disk.Tear{}
			if used < len(tears) {
				tear = tears[used]
			}
			used++
			b := bytes.Clone(f.Loose[:int(tear.Keep)%(len(f.Loose)+1)])
			if k := len(b); k >= 3 {
				b[k-3] ^= byte(tear.Turn >> 16)
				b[k-2] ^= byte(tear.Turn >> 8)
				b[k-1] ^= byte(tear.Turn)
			}
			f = disk.File{Name: f.Name, Kept: slices.Concat(f.Kept, b)}
		}
		if len(f.Kept) > 0 {
			left = append(left, f)
		}
	}
	m.files = left
}

// both makes the call at both, and compares them.
func both(t *testing.T, d *disk.Disk, m *model, c call) {
	t.Helper()
	b, e := c.do(d)
	want, wrong := m.do(c)
	if e != wrong || !bytes.Equal(b, want) {
		t.Fatalf("%+v: %q, error %d, want %q, error %d", c, b, int(e), want, int(wrong))
	}
	if d.Down() != m.down || d.Steps() != m.steps {
		t.Fatalf("%+v: down %t, %d steps, want %t, %d", c, d.Down(), d.Steps(), m.down, m.steps)
	}
	wantFiles(t, "any call", d, m.room, m.files...)
	if t.Failed() {
		t.Fatalf("%+v", c)
	}
}

// anyCall returns a call that is made of random numbers.
func anyCall(below func(n int) int) call {
	// Some stand here more than once, so that they are met again.
	names := []string{"a", "a", "a", "b", "b", "b", "c", "c", "snap.new", "d", "e", strings.Repeat("n", api.MaxName), strings.Repeat("n", api.MaxName+1), ""}
	name := func() string { return names[below(len(names))] }
	c := call{kind: below(calls), name: name(), to: name(), n: below(12) - 1}
	if below(3) == 0 {
		c.kind = doAppend
	}
	switch c.kind {
	case doResize:
		c.n = []int{20, 40, 0, 100, -1, api.MaxRoom, api.MaxRoom + 1}[below(7)]
	case doArm:
		c.n = below(8) - 1
	}
	for range below(9) {
		c.b = append(c.b, byte('a'+below(26)))
	}
	for range below(4) {
		c.tears = append(c.tears, disk.Tear{Keep: uint16(below(1 << 16)), Turn: uint32(below(1 << 32))})
	}
	return c
}

// P23.1, P23.2: any calls.
func TestAnyCalls(t *testing.T) {
	random := rand.New(rand.NewPCG(23, 1))
	for range 400 {
		d, m := disk.New(60), &model{room: 60, left: -1}
		for range 200 {
			both(t, d, m, anyCall(random.IntN))
			if m.down && random.IntN(2) == 0 {
				both(t, d, m, call{kind: doBoot})
			}
		}
	}
}

// P23.3: what is kept survives until it is cut, removed or replaced; of loose bytes a prefix, whose last three may be changed.
func TestKeptSurvives(t *testing.T) {
	random := rand.New(rand.NewPCG(23, 3))
	lost, changed, whole := 0, 0, 0
	for range 4000 {
		d := disk.New(api.MaxRoom)
		for range random.IntN(30) {
			anyCall(random.IntN).do(d)
		}
		before := d.Files()
		ok(t, "Crash", d.Crash(anyCall(random.IntN).tears...))
		ok(t, "Boot", d.Boot())
		for _, f := range before {
			after, _ := d.Read(f.Name)
			rest, kept := bytes.CutPrefix(after, f.Kept)
			if !kept || len(rest) > len(f.Loose) {
				t.Fatalf("%q: %q", f, after)
			}
			if n := max(len(rest)-3, 0); !bytes.Equal(rest[:n], f.Loose[:n]) {
				t.Fatalf("%q: %q", f, after)
			}
			switch {
			case !bytes.Equal(rest, f.Loose[:len(rest)]):
				changed++
			case len(rest) < len(f.Loose):
				lost++
			case len(rest) > 0:
				whole++
			}
		}
		if len(d.Files()) > len(before) {
			t.Fatalf("from %q to %q", before, d.Files())
		}
	}
	if lost < 100 || changed < 100 || whole < 100 {
		t.Errorf("%d lost, %d changed, %d whole", lost, changed, whole)
	}
}

// P23.1, P23.2 for calls that are made of arbitrary bytes.
func FuzzDisk(f *testing.F) {
	f.Add([]byte("0123456789"))
	f.Add(bytes.Repeat([]byte{7, 0, 3, 200, 1}, 60))
	f.Fuzz(func(t *testing.T, b []byte) {
		d, m := disk.New(60), &model{room: 60, left: -1}
		below := func(n int) int {
			x := 0
			for range 4 {
				if len(b) > 0 {
					x, b = x<<8|int(b[0]), b[1:]
				}
				if n <= 256 {
					break
				}
			}
			return x % n
		}
		for len(b) > 0 {
			both(t, d, m, anyCall(below))
		}
	})
}
