package wheel_test

import (
	"encoding/binary"
	"math"
	"math/rand/v2"
	"slices"
	"testing"

	"curfew/api"
	"curfew/slots"
	"curfew/wheel"
)

// model is what a wheel has, in any order.
type model struct {
	now   int64
	items []slots.Thing
}

// index returns where the model has an ID, or -1.
func (m *model) index(id uint64) int {
	return slices.IndexFunc(m.items, func(t slots.Thing) bool { return t.ID == id })
}

// sorted returns items in the order of chapter 11, each inserted before the first one that comes after it.
func sorted(items []slots.Thing) []slots.Thing {
	var l []slots.Thing
	for _, x := range items {
		at := 0
		for at < len(l) && (l[at].Due < x.Due || l[at].Due == x.Due && l[at].ID < x.ID) {
			at++
		}
		l = slices.Insert(l, at, x)
	}
	return l
}

// spread is the chapter's definition of where an item waits, by division.
func (m *model) spread() [5]int {
	var n [5]int
	for _, x := range m.items {
		k, turn := 0, int64(64)
		for k < 4 && x.Due/turn != m.now/turn {
			k++
			turn *= 64
		}
		if x.Due <= m.now {
			k = 4
		}
		n[k]++
	}
	return n
}

// advance returns the items that the instant reaches, in order.
func (m *model) advance(to int64) []slots.Thing {
	var due, rest []slots.Thing
	for _, x := range m.items {
		if x.Due <= to {
			due = append(due, x)
		} else {
			rest = append(rest, x)
		}
	}
	m.now, m.items = to, rest
	return sorted(due)
}

// wantWheel compares all that a wheel tells with a model.
func wantWheel(t *testing.T, what string, w *wheel.Wheel, m *model) {
	t.Helper()
	if now := w.Now(); now != m.now {
		t.Errorf("%s: Now %d, want %d", what, now, m.now)
	}
	if n := w.Len(); n != len(m.items) {
		t.Errorf("%s: Len %d, want %d", what, n, len(m.items))
	}
	all := sorted(m.items)
	if got := w.All(); !slices.Equal(got, all) {
		t.Errorf("%s: All %v, want %v", what, got, all)
	}
	if got, want := w.Spread(), m.spread(); got != want {
		t.Errorf("%s: at %d with %v: Spread %v, want %v", what, m.now, all, got, want)
	}
	next := int64(0)
	if len(all) > 0 {
		next = all[0].Due
	}
	if got, ok := w.Next(); got != next || ok != (len(all) > 0) {
		t.Errorf("%s: at %d with %v: Next %d, %t", what, m.now, all, got, ok)
	}
	for _, x := range all {
		if got, ok := w.Get(x.ID); got != x || !ok {
			t.Errorf("%s: Get(%d): %v, %t, want %v", what, x.ID, got, ok, x)
		}
	}
}

// filled returns a wheel with these items, and its model.
func filled(t *testing.T, now int64, items ...slots.Thing) (*wheel.Wheel, *model) {
	t.Helper()
	w := wheel.New(now)
	for _, x := range items {
		if e := w.Arm(x); e != api.OK {
			t.Fatalf("Arm(%v) at %d: error %d", x, now, int(e))
		}
	}
	return w, &model{now: now, items: slices.Clone(items)}
}

// places returns instants around each turn of a ring, from several instants on, and at the ends of time.
func places() []int64 {
	p := []int64{0, 1, 5, 62, 63, api.Horizon / 3, api.Horizon - 1, api.Horizon}
	for _, from := range []int64{0, 64, 5 * 64 * 64, 7*64*64*64 - 64, 1<<24 - 64, 1 << 30, api.Horizon - 1<<25} {
		for turn := int64(64); turn <= 1<<30; turn *= 64 {
			p = append(p, from, from+turn-1, from+turn, from+turn+1)
		}
	}
	p = slices.DeleteFunc(p, func(t int64) bool { return t > api.Horizon })
	slices.Sort(p)
	return slices.Compact(p)
}

// outside are numbers that are not instants.
var outside = []int64{-1, -2, -64, math.MinInt64, math.MinInt64 + 1, api.Horizon + 1, api.Horizon + 2, 2 * api.Horizon, math.MaxInt64 - 1, math.MaxInt64}

// some has items for each ring at 0, for beyond them, and late ones.
func some() []slots.Thing {
	return []slots.Thing{
		{ID: 3, Gen: 7, Due: 40}, {ID: 2, Gen: 8, Due: 40}, {ID: 9, Due: 1}, {ID: 0, Gen: 1, Due: 63}, {ID: 1, Due: 64}, {ID: 10, Due: 4095}, {ID: 11, Due: 4096}, {ID: 12, Due: 1<<18 - 1}, {ID: 13, Due: 1 << 18},
		{ID: 14, Due: 1<<24 - 1}, {ID: 15, Due: 1 << 24}, {ID: math.MaxUint64, Gen: math.MaxUint64, Due: api.Horizon}, {ID: 17, Due: 0}, {ID: 16, Due: 0}, {ID: 1 << 63, Due: api.Horizon},
	}
}

// P12.2: the chapter's example.
func TestExample(t *testing.T) {
	w, m := filled(t, 0, slots.Thing{ID: 1, Due: 100}, slots.Thing{ID: 2, Due: 63})
	if n := w.Spread(); n != [5]int{1, 1, 0, 0, 0} {
		t.Errorf("Spread %v", n)
	}
	wantWheel(t, "before", w, m)
	if l, e := w.Advance(70); e != api.OK || !slices.Equal(l, []slots.Thing{{ID: 2, Due: 63}}) {
		t.Errorf("Advance: %v, error %d", l, int(e))
	}
	if n := w.Spread(); n != [5]int{1, 0, 0, 0, 0} {
		t.Errorf("then Spread %v", n)
	}
}

// P12.1
func TestNew(t *testing.T) {
	if wheel.Most != 256 {
		t.Errorf("Most is %d", wheel.Most)
	}
	for _, now := range places() {
		w := wheel.New(now)
		wantWheel(t, "a new wheel", w, &model{now: now})
		for _, id := range []uint64{0, 1, math.MaxUint64} {
			if got, ok := w.Get(id); got != (slots.Thing{}) || ok {
				t.Errorf("Get(%d): %v, %t", id, got, ok)
			}
			if got, ok := w.Cancel(id); got != (slots.Thing{}) || ok {
				t.Errorf("Cancel(%d): %v, %t", id, got, ok)
			}
		}
		if l, e := w.Advance(now); len(l) != 0 || e != api.OK {
			t.Errorf("Advance: %v, error %d", l, int(e))
		}
	}
	for _, now := range outside {
		if wheel.New(now) != nil {
			t.Errorf("New(%d)", now)
		}
	}
}

// P12.1: where items wait, at any instant.
func TestSpread(t *testing.T) {
	for _, now := range places() {
		w, m := filled(t, now)
		for i, due := range places() {
			x := slots.Thing{ID: uint64(i), Gen: uint64(2 * i), Due: due}
			if e := w.Arm(x); e != api.OK {
				t.Fatalf("Arm(%v) at %d: error %d", x, now, int(e))
			}
			m.items = append(m.items, x)
			if got, want := w.Spread(), m.spread(); got != want {
				t.Fatalf("at %d with %d: Spread %v, want %v", now, due, got, want)
			}
		}
		wantWheel(t, "all places", w, m)
	}
	for _, x := range []struct {
		now, due int64
		ring     int
	}{
		{0, 1, 0}, {0, 63, 0}, {0, 64, 1}, {63, 64, 1}, {64, 65, 0}, {64, 127, 0}, {64, 128, 1}, {0, 4095, 1}, {0, 4096, 2}, {4095, 4096, 2}, {0, 1<<18 - 1, 2}, {0, 1 << 18, 3}, {1<<18 - 1, 1 << 18, 3},
		{0, 1<<24 - 1, 3}, {0, 1 << 24, 4}, {1<<24 - 1, 1 << 24, 4}, {1 << 24, 1<<24 + 1, 0}, {1 << 24, 1<<25 - 1, 3}, {1 << 24, 1 << 25, 4}, {0, api.Horizon, 4}, {api.Horizon - 1, api.Horizon, 4},
		// Late ones.
		{0, 0, 4}, {5, 5, 4}, {5, 4, 4}, {5, 0, 4}, {64, 63, 4}, {4096, 4095, 4}, {api.Horizon, api.Horizon, 4}, {api.Horizon, 0, 4},
	} {
		w, _ := filled(t, x.now, slots.Thing{ID: 1, Due: x.due})
		want := [5]int{}
		want[x.ring] = 1
		if got := w.Spread(); got != want {
			t.Errorf("%d at %d: Spread %v, want %v", x.due, x.now, got, want)
		}
	}
}

// P12.1
func TestArm(t *testing.T) {
	w, m := filled(t, 0)
	for _, x := range some() {
		if e := w.Arm(x); e != api.OK {
			t.Errorf("Arm(%v): error %d", x, int(e))
		}
		m.items = append(m.items, x)
		wantWheel(t, "Arm", w, m)
	}
	for _, due := range outside {
		for _, id := range []uint64{3, 17, math.MaxUint64, 100} {
			if e := w.Arm(slots.Thing{ID: id, Due: due}); e != api.ErrArg {
				t.Errorf("Arm of %d with %d: error %d", id, due, int(e))
			}
		}
	}
	for _, x := range some() {
		for _, due := range []int64{x.Due, 0, 2, 70, 5000, 1 << 20, 1 << 40} {
			if e := w.Arm(slots.Thing{ID: x.ID, Gen: 99, Due: due}); e != api.ErrThere {
				t.Errorf("Arm of %d again: error %d", x.ID, int(e))
			}
		}
	}
	wantWheel(t, "after errors", w, m)
}

// P12.1: as many as may wait, wherever they do.
func TestArmWhenFull(t *testing.T) {
	for _, due := range []func(i int64) int64{
		func(i int64) int64 { return 100 }, func(i int64) int64 { return 10_000_000_000 + i }, func(i int64) int64 { return i }, func(i int64) int64 { return 99 + i*i*i*i/64 },
	} {
		w, m := filled(t, 99)
		for i := range int64(wheel.Most) {
			x := slots.Thing{ID: uint64(i), Due: due(i)}
			if e := w.Arm(x); e != api.OK {
				t.Fatalf("Arm of number %d: error %d", i+1, int(e))
			}
			m.items = append(m.items, x)
		}
		for _, x := range []struct {
			t    slots.Thing
			want api.Errno
		}{
			{slots.Thing{ID: 1000, Due: 5}, api.ErrFull}, {slots.Thing{ID: 1000, Due: 500}, api.ErrFull}, {slots.Thing{ID: 1000, Due: api.Horizon}, api.ErrFull},
			// Of several errors the first.
			{slots.Thing{ID: 7, Due: 5}, api.ErrThere}, {slots.Thing{ID: 1000, Due: -1}, api.ErrArg}, {slots.Thing{ID: 7, Due: api.Horizon + 1}, api.ErrArg},
		} {
			if e := w.Arm(x.t); e != x.want {
				t.Errorf("Arm(%v) when full: error %d, want %d", x.t, int(e), int(x.want))
			}
		}
		wantWheel(t, "full", w, m)
		if _, ok := w.Cancel(200); !ok {
			t.Error("Cancel")
		}
		if e := w.Arm(slots.Thing{ID: 1000, Due: 5}); e != api.OK {
			t.Errorf("Arm after Cancel: error %d", int(e))
		}
		if e := w.Arm(slots.Thing{ID: 200, Due: 5}); e != api.ErrFull {
			t.Errorf("Arm after that: error %d", int(e))
		}
		if l, e := w.Advance(api.Horizon); len(l) != wheel.Most || e != api.OK || w.Len() != 0 {
			t.Errorf("Advance: %d items, error %d, then Len %d", len(l), int(e), w.Len())
		}
		if e := w.Arm(slots.Thing{ID: 200, Due: 5}); e != api.OK {
			t.Errorf("Arm after Advance: error %d", int(e))
		}
	}
}

// P12.1: whichever item is removed, the others wait.
func TestCancel(t *testing.T) {
	for i, x := range some() {
		w, m := filled(t, 0, some()...)
		if got, ok := w.Cancel(x.ID); got != x || !ok {
			t.Errorf("Cancel(%d): %v, %t", x.ID, got, ok)
		}
		m.items = slices.Delete(m.items, i, i+1)
		wantWheel(t, "after Cancel", w, m)
		for range 2 {
			if got, ok := w.Cancel(x.ID); got != (slots.Thing{}) || ok {
				t.Errorf("Cancel(%d) again: %v, %t", x.ID, got, ok)
			}
			if got, ok := w.Get(x.ID); got != (slots.Thing{}) || ok {
				t.Errorf("Get(%d) after Cancel: %v, %t", x.ID, got, ok)
			}
		}
		wantWheel(t, "after Cancel of nothing", w, m)
		again := slots.Thing{ID: x.ID, Gen: 50, Due: 70}
		if e := w.Arm(again); e != api.OK {
			t.Errorf("Arm again: error %d", int(e))
		}
		m.items = append(m.items, again)
		want := m.advance(api.Horizon)
		if got, e := w.Advance(api.Horizon); !slices.Equal(got, want) || e != api.OK {
			t.Errorf("Advance: %v, error %d, want %v", got, int(e), want)
		}
	}
}

// P12.1
func TestNextOfEachPlace(t *testing.T) {
	w, m := filled(t, 0, some()...)
	for len(m.items) > 0 {
		first := sorted(m.items)[0]
		if got, ok := w.Next(); got != first.Due || !ok {
			t.Errorf("Next %d, %t, want %d", got, ok, first.Due)
		}
		w.Cancel(first.ID)
		m.items = slices.DeleteFunc(m.items, func(x slots.Thing) bool { return x == first })
	}
	if got, ok := w.Next(); got != 0 || ok {
		t.Errorf("Next %d, %t", got, ok)
	}
	w, _ = filled(t, 0, slots.Thing{ID: 1, Due: 0})
	if got, ok := w.Next(); got != 0 || !ok {
		t.Errorf("Next of an item at 0: %d, %t", got, ok)
	}
}

// P12.2
func TestAdvanceToNoInstant(t *testing.T) {
	w, m := filled(t, 0, some()...)
	for _, to := range outside {
		if l, e := w.Advance(to); l != nil || e != api.ErrArg {
			t.Errorf("Advance(%d): %v, error %d", to, l, int(e))
		}
	}
	wantWheel(t, "after errors", w, m)
	w, m = filled(t, 70, some()...)
	for _, to := range []int64{69, 64, 63, 0} {
		if l, e := w.Advance(to); l != nil || e != api.ErrOld {
			t.Errorf("Advance(%d) at 70: %v, error %d", to, l, int(e))
		}
	}
	for _, to := range outside {
		if l, e := w.Advance(to); l != nil || e != api.ErrArg {
			t.Errorf("Advance(%d) at 70: %v, error %d", to, l, int(e))
		}
	}
	wantWheel(t, "after errors at 70", w, m)
}

// P12.2: from each instant to each other one, in one step.
func TestAdvance(t *testing.T) {
	var items []slots.Thing
	for i, due := range places() {
		// Two of each, the one that comes later first.
		items = append(items, slots.Thing{ID: uint64(1000 + i), Gen: 1, Due: due}, slots.Thing{ID: uint64(i), Gen: 2, Due: due})
	}
	for _, now := range places() {
		for _, to := range places() {
			w, m := filled(t, now, items...)
			if to < now {
				continue
			}
			want := m.advance(to)
			if got, e := w.Advance(to); !slices.Equal(got, want) || e != api.OK {
				t.Fatalf("Advance(%d) at %d: %v, error %d, want %v", to, now, got, int(e), want)
			}
			if w.Now() != to || w.Len() != len(m.items) || w.Spread() != m.spread() {
				t.Fatalf("Advance(%d) at %d: Now %d, Len %d, Spread %v, want %v", to, now, w.Now(), w.Len(), w.Spread(), m.spread())
			}
		}
	}
}

// P12.2: late items are returned by the next Advance, also by one to the same instant.
func TestLateItems(t *testing.T) {
	late := []slots.Thing{{ID: 1, Due: 1000}, {ID: 2, Due: 999}, {ID: 4, Due: 0}, {ID: 3, Due: 0}}
	for _, to := range []int64{1000, 1001, 1100, 5000, api.Horizon} {
		w, m := filled(t, 1000, append(late, slots.Thing{ID: 9, Due: 1001}, slots.Thing{ID: 8, Due: 1 << 40})...)
		if n := w.Spread(); n != [5]int{1, 0, 0, 0, 5} {
			t.Errorf("Spread %v", n)
		}
		if next, ok := w.Next(); next != 0 || !ok {
			t.Errorf("Next %d, %t", next, ok)
		}
		want := m.advance(to)
		if got, e := w.Advance(to); !slices.Equal(got, want) || e != api.OK {
			t.Errorf("Advance(%d): %v, error %d, want %v", to, got, int(e), want)
		}
		wantWheel(t, "after Advance", w, m)
		if got, e := w.Advance(to); len(got) != 0 || e != api.OK {
			t.Errorf("Advance(%d) again: %v, error %d", to, got, int(e))
		}
		wantWheel(t, "after Advance again", w, m)
	}
}

// P12.3: second by second, over several turns of the first ring.
func TestSecondBySecond(t *testing.T) {
	for _, now := range []int64{0, 1, 63, 4096 - 130, 1<<18 - 130, 1<<24 - 130, api.Horizon - 300} {
		var items []slots.Thing
		for i := range int64(250) {
			items = append(items, slots.Thing{ID: uint64(i), Due: now + i*37%300})
		}
		w, m := filled(t, now, items...)
		for to := now; to <= now+300; to++ {
			want := m.advance(to)
			if got, e := w.Advance(to); !slices.Equal(got, want) || e != api.OK {
				t.Fatalf("Advance(%d): %v, error %d, want %v", to, got, int(e), want)
			}
			if to%16 == 0 {
				wantWheel(t, "second by second", w, m)
			}
		}
		if w.Len() != 0 {
			t.Errorf("%d are left", w.Len())
		}
	}
}

// P12.3: each item is returned once, whatever the steps are, and the end is the same.
func TestStepsDoNotMatter(t *testing.T) {
	random := rand.New(rand.NewPCG(12, 3))
	for range 60 {
		scale := int64(1) << (1 + random.IntN(40))
		now := random.Int64N(api.Horizon - scale)
		var items []slots.Thing
		for i := range 1 + random.IntN(wheel.Most) {
			items = append(items, slots.Thing{ID: uint64(i), Gen: random.Uint64(), Due: min(now-1+random.Int64N(scale+2), api.Horizon)})
		}
		items = slices.DeleteFunc(items, func(x slots.Thing) bool { return x.Due < 0 })
		whole, m := filled(t, now, items...)
		parts, _ := filled(t, now, items...)
		to := now + random.Int64N(scale+1)
		var got []slots.Thing
		for at := now; ; at = min(to, at+1+random.Int64N(1+scale/8)) {
			l, e := parts.Advance(at)
			if e != api.OK {
				t.Fatalf("Advance(%d): error %d", at, int(e))
			}
			got = append(got, l...)
			if at == to {
				break
			}
		}
		want, _ := whole.Advance(to)
		if late := sorted(got); !slices.Equal(late, want) || !slices.Equal(want, m.advance(to)) {
			t.Fatalf("from %d to %d: in steps %v, at once %v", now, to, late, want)
		}
		wantWheel(t, "at once", whole, m)
		wantWheel(t, "in steps", parts, m)
	}
}

// P12.1, P12.2: what was returned shares no memory with the wheel.
func TestListsAreApart(t *testing.T) {
	w, m := filled(t, 0, some()...)
	a, b := w.All(), w.All()
	for i := range a {
		a[i] = slots.Thing{ID: 1000}
	}
	_ = append(a[:0], slots.Thing{ID: 1001})
	if !slices.Equal(b, sorted(some())) {
		t.Errorf("another list: %v", b)
	}
	wantWheel(t, "after writing to All's list", w, m)
	l, _ := w.Advance(64)
	for i := range l {
		l[i] = slots.Thing{ID: 1000}
	}
	_ = append(l, slots.Thing{ID: 1001})
	m.advance(64)
	wantWheel(t, "after writing to Advance's list", w, m)
	for id := range uint64(100) {
		w.Arm(slots.Thing{ID: 100 + id, Due: int64(id * id * id)})
	}
	w.Advance(1 << 24)
	if !slices.Equal(b, sorted(some())) {
		t.Errorf("the list changed to %v", b)
	}
	for _, x := range l {
		if x != (slots.Thing{ID: 1000}) {
			t.Errorf("Advance's list changed to %v", l)
		}
	}
	other, _ := filled(t, 0)
	wantWheel(t, "another wheel", other, &model{})
}

// P12.1, P12.2
func TestWheelsThatNewDidNotCreate(t *testing.T) {
	for _, w := range []*wheel.Wheel{nil, {}, new(wheel.Wheel), wheel.New(-1)} {
		for _, at := range []int64{0, 5, -1, api.Horizon, api.Horizon + 1} {
			if e := w.Arm(slots.Thing{ID: 1, Due: at}); e != api.ErrNil {
				t.Errorf("Arm: error %d", int(e))
			}
			if l, e := w.Advance(at); l != nil || e != api.ErrNil {
				t.Errorf("Advance: %v, error %d", l, int(e))
			}
		}
		for _, id := range []uint64{0, 1} {
			if got, ok := w.Get(id); got != (slots.Thing{}) || ok {
				t.Errorf("Get: %v, %t", got, ok)
			}
			if got, ok := w.Cancel(id); got != (slots.Thing{}) || ok {
				t.Errorf("Cancel: %v, %t", got, ok)
			}
		}
		if next, ok := w.Next(); next != 0 || ok {
			t.Errorf("Next %d, %t", next, ok)
		}
		if w.All() != nil || w.Spread() != [5]int{} || w.Len() != 0 || w.Now() != 0 {
			t.Errorf("All %v, Spread %v, Len %d, Now %d", w.All(), w.Spread(), w.Len(), w.Now())
		}
	}
}

// makeCall makes one call of the wheel and of the model, and compares the results.
func makeCall(t *testing.T, w *wheel.Wheel, m *model, what int, id uint64, at int64) {
	t.Helper()
	i := m.index(id)
	switch what {
	case 0:
		if at < m.now {
			if l, e := w.Advance(at); l != nil || e != api.ErrOld {
				t.Fatalf("Advance(%d) at %d: %v, error %d", at, m.now, l, int(e))
			}
			return
		}
		want := m.advance(at)
		if l, e := w.Advance(at); !slices.Equal(l, want) || e != api.OK {
			t.Fatalf("Advance(%d): %v, error %d, want %v", at, l, int(e), want)
		}
	case 1:
		want := slots.Thing{}
		if i >= 0 {
			want = m.items[i]
			m.items = slices.Delete(m.items, i, i+1)
		}
		if got, ok := w.Cancel(id); got != want || ok != (i >= 0) {
			t.Fatalf("Cancel(%d): %v, %t, want %v", id, got, ok, want)
		}
	default:
		x, want := slots.Thing{ID: id, Gen: uint64(what), Due: at}, api.OK
		if i >= 0 {
			want = api.ErrThere
		} else if len(m.items) >= wheel.Most {
			want = api.ErrFull
		} else {
			m.items = append(m.items, x)
		}
		if e := w.Arm(x); e != want {
			t.Fatalf("Arm(%v): error %d, want %d", x, int(e), int(want))
		}
	}
}

// P12.1 to P12.3: any calls, compared with a model.
func TestAnyCalls(t *testing.T) {
	random := rand.New(rand.NewPCG(12, 1))
	for range 150 {
		now := random.Int64N(1 << (1 + random.IntN(50)))
		w, m := filled(t, now)
		scale := int64(1) << (1 + random.IntN(32))
		for range 100 {
			// Mostly ahead, at times late or old.
			at := min(max(0, m.now-3+random.Int64N(scale)), api.Horizon)
			makeCall(t, w, m, random.IntN(10), random.Uint64N(60), at)
			wantWheel(t, "any calls", w, m)
			if t.Failed() {
				return
			}
		}
	}
}

func FuzzWheel(f *testing.F) {
	f.Add(uint64(0), []byte{2, 1, 100, 0, 2, 2, 63, 0, 0, 0, 70, 0})
	f.Add(uint64(1<<24-1), []byte{2, 1, 0, 26, 3, 2, 1, 1, 0, 0, 1, 1, 1, 1, 0, 0})
	f.Fuzz(func(t *testing.T, now uint64, calls []byte) {
		at := int64(now % (api.Horizon + 1))
		w, m := filled(t, at)
		for ; len(calls) >= 4; calls = calls[4:] {
			// An instant that differs in one byte, at any height.
			var b [8]byte
			binary.LittleEndian.PutUint64(b[:], uint64(m.now))
			b[calls[3]%7] += calls[2]
			at := int64(binary.LittleEndian.Uint64(b[:]) % (api.Horizon + 1))
			makeCall(t, w, m, int(calls[0]%8), uint64(calls[1]), at)
			wantWheel(t, "any calls", w, m)
		}
	})
}
