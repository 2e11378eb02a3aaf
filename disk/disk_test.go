package disk_test

import (
	"bytes"
	"math"
	"slices"
	"strings"
	"testing"

	"curfew/api"
	"curfew/disk"
)

// file returns a file with these bytes.
func file(name, kept, loose string) disk.File {
	return disk.File{Name: name, Kept: []byte(kept), Loose: []byte(loose)}
}

func equal(a, b []disk.File) bool {
	return slices.EqualFunc(a, b, func(x, y disk.File) bool {
		return x.Name == y.Name && bytes.Equal(x.Kept, y.Kept) && bytes.Equal(x.Loose, y.Loose)
	})
}

// wantFiles compares all that a disk tells of its files, of which room bytes have room.
func wantFiles(t *testing.T, what string, d *disk.Disk, room int, want ...disk.File) {
	t.Helper()
	if got := d.Files(); !equal(got, want) {
		t.Errorf("%s: Files %q, want %q", what, got, want)
	}
	var names []string
	free := room
	for _, f := range want {
		names = append(names, f.Name)
		free -= len(f.Kept) + len(f.Loose)
		all := slices.Concat(f.Kept, f.Loose)
		if b, e := d.Read(f.Name); !d.Down() && (e != api.OK || !bytes.Equal(b, all)) {
			t.Errorf("%s: Read(%q): %q, error %d, want %q", what, f.Name, b, int(e), all)
		}
	}
	if got := d.Names(); !slices.Equal(got, names) {
		t.Errorf("%s: Names %q, want %q", what, got, names)
	}
	if got := d.Free(); got != max(free, 0) {
		t.Errorf("%s: Free %d, want %d", what, got, max(free, 0))
	}
}

// ok checks that a call returned OK.
func ok(t testing.TB, what string, e api.Errno) {
	t.Helper()
	if e != api.OK {
		t.Fatalf("%s: error %d", what, int(e))
	}
}

// rejected makes a call that must return an error, be no step, and change nothing.
func rejected(t *testing.T, what string, d *disk.Disk, want api.Errno, f func() api.Errno) {
	t.Helper()
	files, free, steps, down := d.Files(), d.Free(), d.Steps(), d.Down()
	if e := f(); e != want {
		t.Errorf("%s: error %d, want %d", what, int(e), int(want))
	}
	if !equal(d.Files(), files) || d.Free() != free || d.Down() != down {
		t.Errorf("%s: from %q, %d free, down %t to %q, %d free, down %t", what, files, free, down, d.Files(), d.Free(), d.Down())
	}
	if d.Steps() != steps {
		t.Errorf("%s: %d steps, want %d", what, d.Steps(), steps)
	}
}

// with returns a disk with room for 100 bytes that has these files.
func with(t testing.TB, l ...disk.File) *disk.Disk {
	t.Helper()
	d := disk.New(100)
	for _, f := range l {
		ok(t, "Append", d.Append(f.Name, f.Kept))
		ok(t, "Sync", d.Sync(f.Name))
		ok(t, "Append", d.Append(f.Name, f.Loose))
	}
	return d
}

// P23.1, P23.2: the chapter's example.
func TestExample(t *testing.T) {
	d := disk.New(100)
	ok(t, "Append", d.Append("a", []byte("xyz")))
	wantFiles(t, "Append", d, 100, file("a", "", "xyz"))
	ok(t, "Sync", d.Sync("a"))
	wantFiles(t, "Sync", d, 100, file("a", "xyz", ""))
	ok(t, "Append", d.Append("a", []byte("uv")))
	wantFiles(t, "Append", d, 100, file("a", "xyz", "uv"))
	ok(t, "Crash", d.Crash(disk.Tear{Keep: 1}))
	wantFiles(t, "Crash", d, 100, file("a", "xyzu", ""))
	if !d.Down() {
		t.Error("the power is on")
	}
	ok(t, "Boot", d.Boot())
	wantFiles(t, "Boot", d, 100, file("a", "xyzu", ""))
	if d.Down() || d.Steps() != 3 {
		t.Errorf("down %t, %d steps", d.Down(), d.Steps())
	}
}

// P23.1
func TestNew(t *testing.T) {
	for _, room := range []int{0, 1, 255, 256, api.MaxRoom - 1, api.MaxRoom} {
		d := disk.New(room)
		if d == nil {
			t.Fatalf("New(%d)", room)
		}
		wantFiles(t, "New", d, room)
		if d.Down() || d.Steps() != 0 {
			t.Errorf("New(%d): down %t, %d steps", room, d.Down(), d.Steps())
		}
	}
	for _, room := range []int{-1, math.MinInt, api.MaxRoom + 1, math.MaxInt} {
		if disk.New(room) != nil {
			t.Errorf("New(%d)", room)
		}
	}
}

// P23.1
func TestAppend(t *testing.T) {
	d := disk.New(100)
	ok(t, "Append", d.Append("b", []byte("one")))
	ok(t, "Append", d.Append("a", []byte("two")))
	ok(t, "Append", d.Append("b", []byte("three")))
	wantFiles(t, "Append", d, 100, file("a", "", "two"), file("b", "", "onethree"))
	ok(t, "Sync", d.Sync("b"))
	ok(t, "Append", d.Append("b", []byte("four")))
	ok(t, "Append", d.Append("b", nil))
	ok(t, "Append", d.Append("c", nil))
	ok(t, "Append", d.Append("d", []byte{}))
	wantFiles(t, "Append", d, 100, file("a", "", "two"), file("b", "onethree", "four"), file("c", "", ""), file("d", "", ""))
	if d.Steps() != 8 {
		t.Errorf("%d steps", d.Steps())
	}
}

// P23.1: a name has 1 to MaxName bytes, whatever they are.
func TestNamesThatAreValid(t *testing.T) {
	d := disk.New(100)
	l := []string{"\x00", " ", "/", "A", "a", "a\x00", "aa", "ab", strings.Repeat("b", api.MaxName-1), strings.Repeat("b", api.MaxName), "ä", "\xff", strings.Repeat("\xff", api.MaxName)}
	var want []disk.File
	for i, name := range l {
		// Moved from another name, so that Move's names are checked too.
		ok(t, "Append", d.Append("z", []byte{byte(i)}))
		ok(t, "Move", d.Move("z", name))
		ok(t, "Append", d.Append(name, []byte{byte(i)}))
		want = append(want, disk.File{Name: name, Loose: []byte{byte(i), byte(i)}})
	}
	slices.SortFunc(want, func(a, b disk.File) int { return strings.Compare(a.Name, b.Name) })
	wantFiles(t, "names", d, 100, want...)
	for _, name := range []string{"", strings.Repeat("b", api.MaxName+1), strings.Repeat("b", 300)} {
		rejected(t, "Append", d, api.ErrArg, func() api.Errno { return d.Append(name, []byte("x")) })
		rejected(t, "Append", d, api.ErrArg, func() api.Errno { return d.Append(name, nil) })
		rejected(t, "Move", d, api.ErrArg, func() api.Errno { return d.Move("a", name) })
		rejected(t, "Move", d, api.ErrNone, func() api.Errno { return d.Move(name, "a") })
		rejected(t, "Sync", d, api.ErrNone, func() api.Errno { return d.Sync(name) })
		rejected(t, "Cut", d, api.ErrNone, func() api.Errno { return d.Cut(name, 0) })
		rejected(t, "Remove", d, api.ErrNone, func() api.Errno { return d.Remove(name) })
		rejected(t, "Read", d, api.ErrNone, func() api.Errno { _, e := d.Read(name); return e })
	}
}

// P23.1: a disk is full of bytes.
func TestAppendBeyondRoom(t *testing.T) {
	for _, room := range []int{0, 1, 10, 300} {
		d := disk.New(room)
		many := make([]byte, room+2)
		for _, n := range []int{room + 1, room + 2} {
			rejected(t, "Append", d, api.ErrFull, func() api.Errno { return d.Append("a", many[:n]) })
			rejected(t, "Append", d, api.ErrArg, func() api.Errno { return d.Append("", many[:n]) })
		}
		ok(t, "Append", d.Append("a", many[:room/2]))
		rejected(t, "Append", d, api.ErrFull, func() api.Errno { return d.Append("a", many[:room-room/2+1]) })
		rejected(t, "Append", d, api.ErrFull, func() api.Errno { return d.Append("b", many[:room-room/2+1]) })
		ok(t, "Append", d.Append("b", many[:room-room/2]))
		if d.Free() != 0 {
			t.Errorf("%d free", d.Free())
		}
		for _, name := range []string{"a", "b", "c"} {
			rejected(t, "Append", d, api.ErrFull, func() api.Errno { return d.Append(name, []byte{1}) })
			ok(t, "Append", d.Append(name, nil))
		}
	}
}

// P23.1: a disk is full of files.
func TestAppendBeyondFiles(t *testing.T) {
	d := disk.New(1000)
	name := func(i int) string { return string([]byte{'a' + byte(i/16), 'a' + byte(i%16)}) }
	var want []disk.File
	for i := range api.MaxFiles {
		ok(t, "Append", d.Append(name(i), []byte("x")))
		want = append(want, file(name(i), "", "x"))
	}
	wantFiles(t, "all", d, 1000, want...)
	rejected(t, "Append", d, api.ErrFull, func() api.Errno { return d.Append("z", []byte("x")) })
	rejected(t, "Append", d, api.ErrFull, func() api.Errno { return d.Append("z", nil) })
	rejected(t, "Append", d, api.ErrArg, func() api.Errno { return d.Append("", nil) })
	ok(t, "Append", d.Append("aa", []byte("y")))
	ok(t, "Move", d.Move("aa", "z"))
	rejected(t, "Append", d, api.ErrFull, func() api.Errno { return d.Append("aa", nil) })
	ok(t, "Move", d.Move("ab", "z"))
	ok(t, "Append", d.Append("aa", nil))
	rejected(t, "Append", d, api.ErrFull, func() api.Errno { return d.Append("ab", nil) })
	ok(t, "Remove", d.Remove("ac"))
	ok(t, "Append", d.Append("ab", nil))
	rejected(t, "Append", d, api.ErrFull, func() api.Errno { return d.Append("ac", nil) })
}

// P23.1: of one file only, and also of a file whose bytes are all kept.
func TestSync(t *testing.T) {
	d := with(t, file("a", "x", "yz"), file("b", "", "uv"), file("c", "", ""))
	ok(t, "Sync", d.Sync("a"))
	wantFiles(t, "Sync", d, 100, file("a", "xyz", ""), file("b", "", "uv"), file("c", "", ""))
	ok(t, "Sync", d.Sync("a"))
	ok(t, "Sync", d.Sync("c"))
	wantFiles(t, "Sync", d, 100, file("a", "xyz", ""), file("b", "", "uv"), file("c", "", ""))
	rejected(t, "Sync", d, api.ErrNone, func() api.Errno { return d.Sync("d") })
	if d.Steps() != 9+3 {
		t.Errorf("%d steps", d.Steps())
	}
}

// P23.1: at each length; what is appended later is loose.
func TestCut(t *testing.T) {
	for n := range 6 {
		d := with(t, file("a", "xyz", "uv"), file("b", "pq", "r"))
		rejected(t, "Cut", d, api.ErrNone, func() api.Errno { return d.Cut("c", n) })
		for _, wrong := range []int{-1, math.MinInt, 6, math.MaxInt} {
			rejected(t, "Cut", d, api.ErrArg, func() api.Errno { return d.Cut("a", wrong) })
			rejected(t, "Cut", d, api.ErrNone, func() api.Errno { return d.Cut("c", wrong) })
		}
		ok(t, "Cut", d.Cut("a", n))
		kept, loose := "xyz"[:min(n, 3)], "uv"[:max(n-3, 0)]
		wantFiles(t, "Cut", d, 100, file("a", kept, loose), file("b", "pq", "r"))
		rejected(t, "Cut", d, api.ErrArg, func() api.Errno { return d.Cut("a", n+1) })
		ok(t, "Append", d.Append("a", []byte("new")))
		wantFiles(t, "Append", d, 100, file("a", kept, loose+"new"), file("b", "pq", "r"))
		if d.Steps() != 6+2 {
			t.Errorf("%d steps", d.Steps())
		}
	}
}

// P23.1
func TestRemove(t *testing.T) {
	d := with(t, file("a", "x", "yz"), file("b", "u", ""))
	rejected(t, "Remove", d, api.ErrNone, func() api.Errno { return d.Remove("c") })
	ok(t, "Remove", d.Remove("a"))
	wantFiles(t, "Remove", d, 100, file("b", "u", ""))
	rejected(t, "Remove", d, api.ErrNone, func() api.Errno { return d.Remove("a") })
	ok(t, "Append", d.Append("a", []byte("n")))
	wantFiles(t, "Append", d, 100, file("a", "", "n"), file("b", "u", ""))
	ok(t, "Remove", d.Remove("b"))
	ok(t, "Remove", d.Remove("a"))
	wantFiles(t, "Remove", d, 100)
	if d.Steps() != 6+4 {
		t.Errorf("%d steps", d.Steps())
	}
}

// P23.1: to a new name, in place of a file, and to the same name.
func TestMove(t *testing.T) {
	d := with(t, file("a", "x", "yz"), file("b", "u", "v"))
	ok(t, "Move", d.Move("a", "c"))
	wantFiles(t, "to a new name", d, 100, file("b", "u", "v"), file("c", "x", "yz"))
	ok(t, "Move", d.Move("c", "b"))
	wantFiles(t, "in place of a file", d, 100, file("b", "x", "yz"))
	ok(t, "Move", d.Move("b", "b"))
	wantFiles(t, "to the same name", d, 100, file("b", "x", "yz"))
	rejected(t, "Move", d, api.ErrNone, func() api.Errno { return d.Move("a", "b") })
	rejected(t, "Move", d, api.ErrNone, func() api.Errno { return d.Move("a", "a") })
	rejected(t, "Move", d, api.ErrNone, func() api.Errno { return d.Move("a", "") })
	rejected(t, "Move", d, api.ErrArg, func() api.Errno { return d.Move("b", "") })
	ok(t, "Append", d.Append("a", nil))
	ok(t, "Append", d.Append("b", []byte("!")))
	wantFiles(t, "Append", d, 100, file("a", "", ""), file("b", "x", "yz!"))
	if d.Steps() != 6+5 {
		t.Errorf("%d steps", d.Steps())
	}
	// A full disk moves files likewise.
	ok(t, "Resize", d.Resize(0))
	ok(t, "Move", d.Move("b", "e"))
	wantFiles(t, "full", d, 0, file("a", "", ""), file("e", "x", "yz!"))
}

// P23.1: what a disk has may be more than its room.
func TestResize(t *testing.T) {
	d := with(t, file("a", "xyz", "uvw"))
	for _, room := range []int{6, 5, 1, 0, 7, 300, api.MaxRoom} {
		ok(t, "Resize", d.Resize(room))
		wantFiles(t, "Resize", d, room, file("a", "xyz", "uvw"))
		if room < api.MaxRoom {
			rejected(t, "Append", d, api.ErrFull, func() api.Errno { return d.Append("a", make([]byte, max(room-6, 0)+1)) })
		}
		for _, wrong := range []int{-1, math.MinInt, api.MaxRoom + 1, math.MaxInt} {
			rejected(t, "Resize", d, api.ErrArg, func() api.Errno { return d.Resize(wrong) })
		}
	}
	ok(t, "Resize", d.Resize(4))
	ok(t, "Append", d.Append("a", nil))
	ok(t, "Cut", d.Cut("a", 4))
	rejected(t, "Append", d, api.ErrFull, func() api.Errno { return d.Append("a", []byte("x")) })
	ok(t, "Cut", d.Cut("a", 3))
	ok(t, "Append", d.Append("a", []byte("x")))
	wantFiles(t, "in the end", d, 4, file("a", "xyz", "x"))
	if d.Steps() != 3+4 {
		t.Errorf("%d steps, but a Resize is none", d.Steps())
	}
}

// operations returns each operation that a disk with a file a accepts.
func operations() []func(d *disk.Disk) api.Errno {
	return []func(d *disk.Disk) api.Errno{
		func(d *disk.Disk) api.Errno { return d.Append("a", []byte("new")) },
		func(d *disk.Disk) api.Errno { return d.Append("n", []byte("new")) },
		func(d *disk.Disk) api.Errno { return d.Append("n", nil) },
		func(d *disk.Disk) api.Errno { return d.Sync("a") },
		func(d *disk.Disk) api.Errno { return d.Cut("a", 1) },
		func(d *disk.Disk) api.Errno { return d.Cut("a", 0) },
		func(d *disk.Disk) api.Errno { return d.Remove("a") },
		func(d *disk.Disk) api.Errno { return d.Move("a", "n") },
		func(d *disk.Disk) api.Errno { return d.Move("a", "b") },
		func(d *disk.Disk) api.Errno { return d.Move("a", "a") },
	}
}

// mistakes returns calls that no disk with files a and b accepts, with their errors.
func mistakes() map[api.Errno][]func(d *disk.Disk) api.Errno {
	return map[api.Errno][]func(d *disk.Disk) api.Errno{
		api.ErrArg: {
			func(d *disk.Disk) api.Errno { return d.Append("", nil) },
			func(d *disk.Disk) api.Errno { return d.Cut("a", -1) },
			func(d *disk.Disk) api.Errno { return d.Move("a", "") },
			func(d *disk.Disk) api.Errno { return d.Resize(-1) },
			func(d *disk.Disk) api.Errno { return d.Arm(-1) },
			func(d *disk.Disk) api.Errno { return d.Arm(math.MinInt) },
		},
		api.ErrFull: {
			func(d *disk.Disk) api.Errno { return d.Append("a", make([]byte, api.MaxRoom+1)) },
		},
		api.ErrNone: {
			func(d *disk.Disk) api.Errno { return d.Sync("m") },
			func(d *disk.Disk) api.Errno { return d.Cut("m", 0) },
			func(d *disk.Disk) api.Errno { return d.Remove("m") },
			func(d *disk.Disk) api.Errno { return d.Move("m", "a") },
			func(d *disk.Disk) api.Errno { _, e := d.Read("m"); return e },
		},
	}
}

// others returns calls that are accepted and are no steps.
func others() []func(d *disk.Disk) api.Errno {
	return []func(d *disk.Disk) api.Errno{
		func(d *disk.Disk) api.Errno { _, e := d.Read("a"); return e },
		func(d *disk.Disk) api.Errno { return d.Resize(100) },
		func(d *disk.Disk) api.Errno { return d.Arm(1 << 20) },
	}
}

// two returns a disk with two files.
func two(t testing.TB) *disk.Disk { return with(t, file("a", "xyz", "uv"), file("b", "", "pq")) }

// P23.1, P23.2: without power everything is ErrDown, whatever else is wrong, and no step; what a disk has can still be asked.
func TestDown(t *testing.T) {
	for _, off := range []func(d *disk.Disk){
		func(d *disk.Disk) { d.Crash(disk.Tear{Keep: 2}, disk.Tear{Keep: 2}) },
		func(d *disk.Disk) { d.Arm(0); d.Sync("a") },
	} {
		d := two(t)
		off(d)
		if !d.Down() {
			t.Fatal("the power is on")
		}
		want := d.Files()
		calls := append(operations(), others()...)
		for _, l := range mistakes() {
			calls = append(calls, l...)
		}
		for _, f := range calls {
			rejected(t, "without power", d, api.ErrDown, func() api.Errno { return f(d) })
		}
		if b, e := d.Read("a"); b != nil || e != api.ErrDown {
			t.Errorf("Read: %q, error %d", b, int(e))
		}
		wantFiles(t, "without power", d, 100, want...)
		if len(want) != 2 {
			t.Errorf("%q", want)
		}
		ok(t, "Boot", d.Boot())
		wantFiles(t, "Boot", d, 100, want...)
		ok(t, "Sync", d.Sync("a"))
	}
}

// P23.1: errors are no steps.
func TestMistakes(t *testing.T) {
	for want, l := range mistakes() {
		for _, f := range l {
			d := two(t)
			rejected(t, "a mistake", d, want, func() api.Errno { return f(d) })
		}
	}
}

// P23.2: each operation is one step, at which the power fails; an Append is done all the same.
func TestArm(t *testing.T) {
	for i, f := range operations() {
		for steps := range 4 {
			d, other := two(t), two(t)
			ok(t, "Arm", d.Arm(steps))
			for range steps {
				ok(t, "a step before", d.Sync("b"))
				ok(t, "a step before", other.Sync("b"))
			}
			if i < 3 {
				ok(t, "Append", f(other))
			}
			if e := f(d); e != api.ErrDown || !d.Down() {
				t.Errorf("operation %d: error %d, down %t", i, int(e), d.Down())
			}
			wantFiles(t, "where the power fails", d, 100, other.Files()...)
			if want := uint64(6 + steps + 1); d.Steps() != want {
				t.Errorf("operation %d: %d steps, want %d", i, d.Steps(), want)
			}
			rejected(t, "after it", d, api.ErrDown, func() api.Errno { return f(d) })
			ok(t, "Boot", d.Boot())
			ok(t, "after Boot", f(d))
			ok(t, "after Boot", d.Append("c", nil))
		}
	}
}

// P23.2: what is no step does not bring the failure nearer.
func TestArmCountsSteps(t *testing.T) {
	d := two(t)
	ok(t, "Arm", d.Arm(2))
	for range 2 {
		for want, l := range mistakes() {
			for _, f := range l {
				rejected(t, "a mistake", d, want, func() api.Errno { return f(d) })
			}
		}
		for _, f := range others()[:2] {
			ok(t, "no step", f(d))
		}
		d.Names()
		d.Files()
		d.Steps()
		ok(t, "a step", d.Append("a", nil))
	}
	for want, l := range mistakes() {
		for _, f := range l {
			rejected(t, "a mistake", d, want, func() api.Errno { return f(d) })
		}
	}
	if e := d.Append("a", nil); e != api.ErrDown {
		t.Errorf("error %d", int(e))
	}
}

// P23.2: Arm counts from the last one on.
func TestArmAgain(t *testing.T) {
	for _, x := range []struct{ first, between, second int }{{3, 2, 3}, {3, 3, 0}, {3, 0, 5}, {5, 1, 1}, {0, 0, 2}, {math.MaxInt, 2, 1}} {
		d := two(t)
		ok(t, "Arm", d.Arm(x.first))
		for range x.between {
			ok(t, "a step", d.Sync("a"))
		}
		ok(t, "Arm", d.Arm(x.second))
		for range x.second {
			ok(t, "a step", d.Sync("a"))
		}
		if e := d.Sync("a"); e != api.ErrDown {
			t.Errorf("%v: error %d", x, int(e))
		}
	}
	// An Arm that is rejected leaves it as it was.
	d := two(t)
	ok(t, "Arm", d.Arm(1))
	rejected(t, "Arm", d, api.ErrArg, func() api.Errno { return d.Arm(-1) })
	ok(t, "a step", d.Sync("a"))
	if e := d.Sync("a"); e != api.ErrDown {
		t.Errorf("error %d", int(e))
	}
}

// P23.2: after Boot nothing is armed, whether the power was off or not.
func TestBootDisarms(t *testing.T) {
	for _, crash := range []bool{false, true} {
		d := two(t)
		ok(t, "Arm", d.Arm(0))
		if crash {
			ok(t, "Crash", d.Crash(disk.Tear{Keep: 1}))
		}
		ok(t, "Boot", d.Boot())
		if d.Down() {
			t.Error("the power is off")
		}
		for range 3 {
			ok(t, "a step", d.Sync("a"))
		}
	}
	// And a disk that is armed for long goes on.
	d := two(t)
	ok(t, "Arm", d.Arm(math.MaxInt))
	for range 3 {
		ok(t, "a step", d.Sync("a"))
	}
}

// P23.2: loose bytes stay loose until a Crash, also without power.
func TestBootAlone(t *testing.T) {
	d := two(t)
	ok(t, "Arm", d.Arm(0))
	if e := d.Append("a", []byte("w")); e != api.ErrDown {
		t.Errorf("error %d", int(e))
	}
	want := []disk.File{file("a", "xyz", "uvw"), file("b", "", "pq")}
	wantFiles(t, "without power", d, 100, want...)
	ok(t, "Boot", d.Boot())
	wantFiles(t, "Boot", d, 100, want...)
	ok(t, "Crash", d.Crash())
	wantFiles(t, "Crash", d, 100, file("a", "xyz", ""))
}

// P23.2: how many of 4 loose bytes a tear keeps, and what becomes of them.
func TestTear(t *testing.T) {
	for _, x := range []struct {
		tear disk.Tear
		want string
	}{
		{disk.Tear{}, ""}, {disk.Tear{Keep: 1}, "p"}, {disk.Tear{Keep: 2}, "pq"}, {disk.Tear{Keep: 3}, "pqr"}, {disk.Tear{Keep: 4}, "pqrs"},
		{disk.Tear{Keep: 5}, ""}, {disk.Tear{Keep: 6}, "p"}, {disk.Tear{Keep: 9}, "pqrs"}, {disk.Tear{Keep: 65535}, ""}, {disk.Tear{Keep: 65534}, "pqrs"},
		// Fewer than 3 bytes are not changed.
		{disk.Tear{Keep: 0, Turn: 0x010203}, ""}, {disk.Tear{Keep: 1, Turn: 0x010203}, "p"}, {disk.Tear{Keep: 2, Turn: 0x010203}, "pq"},
		{disk.Tear{Keep: 3, Turn: 0x010203}, "\x71\x73\x71"}, {disk.Tear{Keep: 4, Turn: 0x010203}, "p\x70\x70\x70"},
		{disk.Tear{Keep: 3, Turn: 0xff0000}, "\x8fqr"}, {disk.Tear{Keep: 3, Turn: 0x00ff00}, "p\x8er"}, {disk.Tear{Keep: 3, Turn: 0x0000ff}, "pq\x8d"},
		// The highest 8 of the 32 bits have no effect.
		{disk.Tear{Keep: 4, Turn: 0xff000000}, "pqrs"}, {disk.Tear{Keep: 4, Turn: 0x80000001}, "pqr\x72"}, {disk.Tear{Keep: 4, Turn: math.MaxUint32}, "p\x8e\x8d\x8c"},
	} {
		for _, kept := range []string{"", "xyz"} {
			d := with(t, file("a", kept, "pqrs"))
			ok(t, "Crash", d.Crash(x.tear))
			var want []disk.File
			if kept+x.want != "" {
				want = append(want, file("a", kept+x.want, ""))
			}
			wantFiles(t, "Crash", d, 100, want...)
		}
	}
}

// P23.2: the last three bytes that are changed are loose ones, and kept ones stay.
func TestTearSparesKept(t *testing.T) {
	for loose := range 6 {
		for keep := range loose + 1 {
			bytes := "pqrst"[:loose]
			want := []byte(bytes[:keep])
			for i := range want {
				if keep >= 3 && i >= keep-3 {
					want[i] ^= 0xff
				}
			}
			d := with(t, file("a", "xyz", bytes))
			ok(t, "Crash", d.Crash(disk.Tear{Keep: uint16(keep), Turn: math.MaxUint32}))
			wantFiles(t, "Crash", d, 100, file("a", "xyz"+string(want), ""))
		}
	}
}

// P23.2: tears apply in the order of names, only to files with loose bytes; there is a zero tear for the others.
func TestTearsInOrder(t *testing.T) {
	for _, x := range []struct {
		tears []disk.Tear
		want  []disk.File
	}{
		{nil, []disk.File{file("c", "1", ""), file("d", "2", ""), file("f", "3", "")}},
		{[]disk.Tear{{Keep: 1}}, []disk.File{file("a", "p", ""), file("c", "1", ""), file("d", "2", ""), file("f", "3", "")}},
		{[]disk.Tear{{Keep: 1}, {Keep: 2}}, []disk.File{file("a", "p", ""), file("c", "1", ""), file("d", "2st", ""), file("f", "3", "")}},
		{[]disk.Tear{{Keep: 0}, {Keep: 1}, {Keep: 2}}, []disk.File{file("c", "1", ""), file("d", "2s", ""), file("e", "uv", ""), file("f", "3", "")}},
		{[]disk.Tear{{Keep: 2}, {}, {Keep: 1}, {Keep: 7}, {Keep: 9}}, []disk.File{file("a", "pq", ""), file("c", "1", ""), file("d", "2", ""), file("e", "u", ""), file("f", "3", "")}},
	} {
		d := with(t, file("f", "3", ""), file("e", "", "uv"), file("d", "2", "st"), file("c", "1", ""), file("a", "", "pq"))
		before := slices.Clone(x.tears)
		ok(t, "Crash", d.Crash(x.tears...))
		wantFiles(t, "Crash", d, 100, x.want...)
		if !slices.Equal(x.tears, before) {
			t.Errorf("the argument is %v, was %v", x.tears, before)
		}
		// Nothing is loose any more, so that another Crash changes nothing.
		ok(t, "Crash", d.Crash(disk.Tear{Keep: 1, Turn: 1}, disk.Tear{Keep: 1, Turn: 1}))
		wantFiles(t, "Crash again", d, 100, x.want...)
		if !d.Down() {
			t.Error("the power is on")
		}
	}
}

// P23.2: a file without bytes does not survive, whatever made it so.
func TestCrashRemovesEmptyFiles(t *testing.T) {
	d := with(t, file("a", "", ""), file("b", "", "x"), file("c", "x", ""), file("d", "x", "y"), file("e", "x", ""))
	ok(t, "Cut", d.Cut("c", 0))
	ok(t, "Cut", d.Cut("d", 0))
	ok(t, "Sync", d.Sync("a"))
	ok(t, "Crash", d.Crash())
	wantFiles(t, "Crash", d, 100, file("e", "x", ""))
	ok(t, "Boot", d.Boot())
	rejected(t, "Sync", d, api.ErrNone, func() api.Errno { return d.Sync("a") })
}

// P23.2: a Crash after the power failed, with the bytes that the Append added.
func TestCrashAfterFailure(t *testing.T) {
	d := two(t)
	ok(t, "Arm", d.Arm(0))
	if e := d.Append("n", []byte("new")); e != api.ErrDown {
		t.Errorf("error %d", int(e))
	}
	ok(t, "Crash", d.Crash(disk.Tear{Keep: 1}, disk.Tear{Keep: 2}, disk.Tear{Keep: 3, Turn: 0x20}))
	wantFiles(t, "Crash", d, 100, file("a", "xyzu", ""), file("b", "pq", ""), file("n", "neW", ""))
	if d.Steps() != 7 {
		t.Errorf("%d steps, but a Crash is none", d.Steps())
	}
}

// P23.1, P23.2: disks that are nil or plain.
func TestDisksThatAreNotThere(t *testing.T) {
	for _, d := range []*disk.Disk{nil, {}, new(disk.Disk)} {
		calls := append(operations(), others()...)
		for _, l := range mistakes() {
			calls = append(calls, l...)
		}
		calls = append(calls, func(d *disk.Disk) api.Errno { return d.Crash() }, func(d *disk.Disk) api.Errno { return d.Crash(disk.Tear{Keep: 1}) }, func(d *disk.Disk) api.Errno { return d.Boot() })
		for range 2 {
			for i, f := range calls {
				if e := f(d); e != api.ErrNil {
					t.Errorf("call %d: error %d", i, int(e))
				}
			}
			if b, e := d.Read("a"); b != nil || e != api.ErrNil {
				t.Errorf("Read: %q, error %d", b, int(e))
			}
			if d.Names() != nil || d.Files() != nil || d.Free() != 0 || d.Steps() != 0 || d.Down() {
				t.Errorf("Names %q, Files %q, Free %d, Steps %d, Down %t", d.Names(), d.Files(), d.Free(), d.Steps(), d.Down())
			}
		}
	}
}

// P23.1, P23.2: what goes in and what comes out shares no memory with the disk, nor with each other.
func TestApart(t *testing.T) {
	d := disk.New(100)
	b := []byte("xyzabc")
	ok(t, "Append", d.Append("a", b[:3]))
	if string(b) != "xyzabc" {
		t.Errorf("the argument is %q", b)
	}
	b[0] = '!'
	ok(t, "Sync", d.Sync("a"))
	ok(t, "Append", d.Append("a", []byte("uvw")))
	want := file("a", "xyz", "uvw")
	wantFiles(t, "a changed argument", d, 100, want)

	read, _ := d.Read("a")
	files := d.Files()
	names := d.Names()
	read[0] = '!'
	_ = append(read, '!')
	files[0].Loose[0] = '!'
	_ = append(files[0].Kept, "!!!"...)
	if string(files[0].Loose) != "!vw" {
		t.Errorf("Loose is %q after a change of Kept", files[0].Loose)
	}
	files[0].Kept[0], files[0].Name, names[0] = '!', "b", "c"
	wantFiles(t, "changed results", d, 100, want)

	read, _ = d.Read("a")
	files = d.Files()
	ok(t, "Cut", d.Cut("a", 1))
	ok(t, "Append", d.Append("a", []byte("12345")))
	ok(t, "Crash", d.Crash(disk.Tear{Keep: 5, Turn: math.MaxUint32}))
	if string(read) != "xyzuvw" || !equal(files, []disk.File{want}) {
		t.Errorf("%q, %q after changes of the disk", read, files)
	}
}

// P23.1: disks are independent, also while they have files of the same name.
func TestDisksAreApart(t *testing.T) {
	a, b := two(t), two(t)
	ok(t, "Cut", a.Cut("a", 1))
	ok(t, "Append", a.Append("a", []byte("new")))
	wantFiles(t, "the other", b, 100, file("a", "xyz", "uv"), file("b", "", "pq"))
	ok(t, "Crash", a.Crash())
	if b.Down() || b.Steps() != 6 {
		t.Errorf("down %t, %d steps", b.Down(), b.Steps())
	}
}
