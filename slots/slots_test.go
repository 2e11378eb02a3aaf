package slots_test

import (
	"math"
	"math/rand/v2"
	"slices"
	"testing"

	"curfew/api"
	"curfew/slots"
)

// waiting is an item and where it waits.
type waiting struct {
	t    slots.Thing
	slot int
}

// model is what a ring has, in the order in which it was put.
type model []waiting

// index returns where the model has an ID, or -1.
func (m model) index(id uint64) int {
	return slices.IndexFunc(m, func(w waiting) bool { return w.t.ID == id })
}

// look returns what a slot has, each item inserted before the first one that comes after it.
func (m model) look(slot int) []slots.Thing {
	var l []slots.Thing
	for _, w := range m {
		if w.slot != slot {
			continue
		}
		at := 0
		for at < len(l) && (l[at].Due < w.t.Due || l[at].Due == w.t.Due && l[at].ID < w.t.ID) {
			at++
		}
		l = slices.Insert(l, at, w.t)
	}
	return l
}

// next goes around slot by slot.
func (m model) next(from int) (slot, steps int, ok bool) {
	at := from % slots.Many
	if at < 0 {
		at += slots.Many
	}
	for steps := range slots.Many {
		if slices.ContainsFunc(m, func(w waiting) bool { return w.slot == at }) {
			return at, steps, true
		}
		at++
		if at == slots.Many {
			at = 0
		}
	}
	return 0, 0, false
}

// outside are numbers that are no slots.
var outside = []int{-1, -2, -slots.Many, math.MinInt, math.MinInt + 1, slots.Many, slots.Many + 1, 2 * slots.Many, 3 + 1<<32, math.MaxInt - 1, math.MaxInt}

// wantRing compares all that a ring tells with a model.
func wantRing(t *testing.T, what string, r *slots.Ring, m model) {
	t.Helper()
	if n := r.Len(); n != len(m) {
		t.Errorf("%s: Len %d, want %d", what, n, len(m))
	}
	used := uint64(0)
	for slot := range slots.Many {
		want := m.look(slot)
		if len(want) > 0 {
			used += uint64(1) << uint(slot)
		}
		if got := r.Look(slot); !slices.Equal(got, want) {
			t.Errorf("%s: Look(%d): %v, want %v", what, slot, got, want)
		}
		s, steps, ok := r.Next(slot)
		if ws, wsteps, wok := m.next(slot); s != ws || steps != wsteps || ok != wok {
			t.Errorf("%s: Next(%d): %d, %d, %t, want %d, %d, %t", what, slot, s, steps, ok, ws, wsteps, wok)
		}
	}
	if got := r.Used(); got != used {
		t.Errorf("%s: Used %b, want %b", what, got, used)
	}
	for _, w := range m {
		if got, slot, ok := r.Get(w.t.ID); got != w.t || slot != w.slot || !ok {
			t.Errorf("%s: Get(%d): %v, %d, %t, want %v, %d", what, w.t.ID, got, slot, ok, w.t, w.slot)
		}
	}
}

// filled returns a ring that has what the model has.
func filled(t *testing.T, m model) *slots.Ring {
	t.Helper()
	r := slots.New()
	for _, w := range m {
		if e := r.Put(w.slot, w.t); e != api.OK {
			t.Fatalf("Put(%d, %v): error %d", w.slot, w.t, int(e))
		}
	}
	return r
}

// some has items in several slots, the first and the last among them, with any numbers.
func some() model {
	return model{
		{slots.Thing{ID: 5, Gen: 1, Due: 10}, 3}, {slots.Thing{ID: 0, Gen: 2, Due: -1}, 0}, {slots.Thing{ID: 4, Gen: 1, Due: 10}, 3}, {slots.Thing{ID: 9, Due: 9}, 3},
		{slots.Thing{ID: math.MaxUint64, Gen: math.MaxUint64, Due: math.MaxInt64}, 63}, {slots.Thing{ID: 1 << 63, Due: math.MinInt64}, 63}, {slots.Thing{ID: 7, Gen: 3}, 63}, {slots.Thing{ID: 8, Gen: 3, Due: 10}, 31},
	}
}

// P11.2: the chapter's example.
func TestExample(t *testing.T) {
	r := filled(t, model{{slots.Thing{ID: 1}, 60}, {slots.Thing{ID: 2}, 3}})
	if slot, steps, ok := r.Next(10); slot != 60 || steps != 50 || !ok {
		t.Errorf("Next(10): %d, %d, %t", slot, steps, ok)
	}
	if slot, steps, ok := r.Next(61); slot != 3 || steps != 6 || !ok {
		t.Errorf("Next(61): %d, %d, %t", slot, steps, ok)
	}
}

// P11.1
func TestBefore(t *testing.T) {
	for _, x := range []struct {
		a, b slots.Thing
		want bool
	}{
		{slots.Thing{ID: 1, Due: 5}, slots.Thing{ID: 1, Due: 6}, true}, {slots.Thing{ID: 1, Due: 6}, slots.Thing{ID: 1, Due: 5}, false},
		{slots.Thing{ID: 9, Due: 5}, slots.Thing{ID: 1, Due: 6}, true}, {slots.Thing{ID: 1, Due: 6}, slots.Thing{ID: 9, Due: 5}, false},
		{slots.Thing{ID: 1, Due: 5}, slots.Thing{ID: 2, Due: 5}, true}, {slots.Thing{ID: 2, Due: 5}, slots.Thing{ID: 1, Due: 5}, false},
		{slots.Thing{ID: 1, Due: 5}, slots.Thing{ID: 1, Due: 5}, false}, {slots.Thing{}, slots.Thing{}, false},
		// Gen has no part in it.
		{slots.Thing{ID: 1, Gen: 1, Due: 5}, slots.Thing{ID: 1, Gen: 2, Due: 5}, false}, {slots.Thing{ID: 1, Gen: 2, Due: 5}, slots.Thing{ID: 1, Gen: 1, Due: 5}, false},
		{slots.Thing{ID: 1, Gen: 9, Due: 5}, slots.Thing{ID: 2, Gen: 1, Due: 5}, true}, {slots.Thing{ID: 2, Gen: 1, Due: 5}, slots.Thing{ID: 1, Gen: 9, Due: 5}, false},
		// Numbers whose difference is beyond their type.
		{slots.Thing{Due: math.MinInt64}, slots.Thing{Due: math.MaxInt64}, true}, {slots.Thing{Due: math.MaxInt64}, slots.Thing{Due: math.MinInt64}, false}, {slots.Thing{Due: -1}, slots.Thing{Due: 0}, true}, {slots.Thing{Due: 0}, slots.Thing{Due: -1}, false},
		{slots.Thing{ID: 0}, slots.Thing{ID: math.MaxUint64}, true}, {slots.Thing{ID: math.MaxUint64}, slots.Thing{ID: 0}, false}, {slots.Thing{ID: 1 << 63}, slots.Thing{ID: 1}, false}, {slots.Thing{ID: 1}, slots.Thing{ID: 1 << 63}, true},
	} {
		if got := slots.Before(x.a, x.b); got != x.want {
			t.Errorf("Before(%v, %v) is %t", x.a, x.b, got)
		}
	}
}

// P11.1: against sorting by exchanging neighbours.
func TestSort(t *testing.T) {
	random := rand.New(rand.NewPCG(11, 1))
	for size := range 40 {
		l := make([]slots.Thing, size)
		for i := range l {
			// Gen tells which of several equal ones came first.
			l[i] = slots.Thing{ID: random.Uint64N(4), Gen: uint64(i), Due: random.Int64N(4) - 2}
		}
		want := slices.Clone(l)
		for range want {
			for i := 1; i < len(want); i++ {
				if a, b := want[i-1], want[i]; b.Due < a.Due || b.Due == a.Due && b.ID < a.ID {
					want[i-1], want[i] = b, a
				}
			}
		}
		slots.Sort(l)
		if !slices.Equal(l, want) {
			t.Errorf("%v, want %v", l, want)
		}
	}
	slots.Sort(nil)
}

// P11.1, and the general rule about memory beyond a list's length.
func TestSortLeavesTheSpareCapacity(t *testing.T) {
	all := []slots.Thing{{ID: 9}, {ID: 3}, {ID: 2}, {ID: 1}}
	slots.Sort(all[:2])
	if want := []slots.Thing{{ID: 3}, {ID: 9}, {ID: 2}, {ID: 1}}; !slices.Equal(all, want) {
		t.Errorf("%v", all)
	}
}

// P11.1, P11.2
func TestNewIsEmpty(t *testing.T) {
	if slots.Many != 64 {
		t.Errorf("Many is %d", slots.Many)
	}
	r := slots.New()
	wantRing(t, "a new ring", r, nil)
	for slot := range slots.Many {
		if l := r.Take(slot); len(l) != 0 {
			t.Errorf("Take(%d): %v", slot, l)
		}
	}
	for _, id := range []uint64{0, 1, math.MaxUint64} {
		if got, slot, ok := r.Get(id); got != (slots.Thing{}) || slot != 0 || ok {
			t.Errorf("Get(%d): %v, %d, %t", id, got, slot, ok)
		}
		if got, ok := r.Drop(id); got != (slots.Thing{}) || ok {
			t.Errorf("Drop(%d): %v, %t", id, got, ok)
		}
	}
}

// P11.1
func TestPut(t *testing.T) {
	m := model{}
	r := slots.New()
	for _, w := range some() {
		if e := r.Put(w.slot, w.t); e != api.OK {
			t.Errorf("Put(%d, %v): error %d", w.slot, w.t, int(e))
		}
		m = append(m, w)
		wantRing(t, "Put", r, m)
	}
	for _, slot := range outside {
		for _, id := range []uint64{5, 100} {
			if e := r.Put(slot, slots.Thing{ID: id, Due: 1}); e != api.ErrArg {
				t.Errorf("Put(%d) of %d: error %d", slot, id, int(e))
			}
		}
	}
	for _, w := range m {
		for _, slot := range []int{0, 3, 20, 63} {
			if e := r.Put(slot, slots.Thing{ID: w.t.ID, Gen: 77, Due: 77}); e != api.ErrThere {
				t.Errorf("Put(%d) of %d again: error %d", slot, w.t.ID, int(e))
			}
		}
	}
	wantRing(t, "after errors", r, m)
}

// P11.1: every slot is one.
func TestAllSlots(t *testing.T) {
	var m model
	for slot := range slots.Many {
		m = append(m, waiting{slots.Thing{ID: uint64(slot), Due: int64(100 - slot)}, slot})
	}
	r := filled(t, m)
	wantRing(t, "all slots", r, m)
	if r.Used() != math.MaxUint64 {
		t.Errorf("Used %b", r.Used())
	}
}

// P11.1: whichever item of a slot is dropped, the others wait.
func TestDrop(t *testing.T) {
	for i, w := range some() {
		m := some()
		r := filled(t, m)
		if got, ok := r.Drop(w.t.ID); got != w.t || !ok {
			t.Errorf("Drop(%d): %v, %t", w.t.ID, got, ok)
		}
		m = slices.Delete(m, i, i+1)
		wantRing(t, "after Drop", r, m)
		for range 2 {
			if got, ok := r.Drop(w.t.ID); got != (slots.Thing{}) || ok {
				t.Errorf("Drop(%d) again: %v, %t", w.t.ID, got, ok)
			}
			if got, slot, ok := r.Get(w.t.ID); got != (slots.Thing{}) || slot != 0 || ok {
				t.Errorf("Get(%d) after Drop: %v, %d, %t", w.t.ID, got, slot, ok)
			}
		}
		wantRing(t, "after Drop of nothing", r, m)
		// What was dropped may be put again, also elsewhere.
		again := waiting{slots.Thing{ID: w.t.ID, Gen: 50, Due: 60}, 40}
		if e := r.Put(again.slot, again.t); e != api.OK {
			t.Errorf("Put again: error %d", int(e))
		}
		wantRing(t, "after Put again", r, append(m, again))
	}
}

// P11.1
func TestTake(t *testing.T) {
	r, m := filled(t, some()), some()
	for _, slot := range []int{3, 3, 63, 1, 0, 31, 31} {
		want := m.look(slot)
		if got := r.Take(slot); !slices.Equal(got, want) {
			t.Errorf("Take(%d): %v, want %v", slot, got, want)
		}
		m = slices.DeleteFunc(m, func(w waiting) bool { return w.slot == slot })
		wantRing(t, "after Take", r, m)
		for _, x := range want {
			if got, at, ok := r.Get(x.ID); got != (slots.Thing{}) || at != 0 || ok {
				t.Errorf("Get(%d) after Take: %v, %d, %t", x.ID, got, at, ok)
			}
		}
	}
	// What was taken may be put again.
	again := model{{slots.Thing{ID: 5, Due: 1}, 3}, {slots.Thing{ID: 4, Due: 1}, 62}}
	for _, w := range again {
		if e := r.Put(w.slot, w.t); e != api.OK {
			t.Errorf("Put again: error %d", int(e))
		}
	}
	wantRing(t, "after Put again", r, again)
}

// P11.1
func TestSlotsThatAreNotThere(t *testing.T) {
	r := filled(t, some())
	for _, slot := range outside {
		if l := r.Look(slot); len(l) != 0 {
			t.Errorf("Look(%d): %v", slot, l)
		}
		if l := r.Take(slot); len(l) != 0 {
			t.Errorf("Take(%d): %v", slot, l)
		}
	}
	wantRing(t, "after that", r, some())
}

// P11.1: what Look and Take returned shares no memory with the ring, and none with each other.
func TestListsAreApart(t *testing.T) {
	r := filled(t, some())
	a, b := r.Look(3), r.Look(3)
	for i := range a {
		a[i] = slots.Thing{ID: 1000}
	}
	_ = append(a[:0], slots.Thing{ID: 1001})
	if want := some().look(3); !slices.Equal(b, want) {
		t.Errorf("another list: %v, want %v", b, want)
	}
	wantRing(t, "after writing to Look's list", r, some())
	l := r.Take(63)
	for i := range l {
		l[i] = slots.Thing{ID: 1000}
	}
	// What is put from now on changes no list that was returned.
	for id := range uint64(20) {
		r.Put(63, slots.Thing{ID: 100 + id})
		r.Put(3, slots.Thing{ID: 200 + id})
	}
	if want := some().look(3); !slices.Equal(b, want) {
		t.Errorf("the list changed to %v, want %v", b, want)
	}
	for _, x := range l {
		if x != (slots.Thing{ID: 1000}) {
			t.Errorf("the taken list changed to %v", l)
		}
	}
	if got := r.Look(63); len(got) != 20 || got[0].ID != 100 {
		t.Errorf("%v", got)
	}
}

// P11.2: from is taken modulo 64, in the range from 0 on.
func TestNextFromAnyNumber(t *testing.T) {
	for _, m := range []model{nil, some(), {{slots.Thing{ID: 1}, 0}}, {{slots.Thing{ID: 1}, 63}}, {{slots.Thing{ID: 1}, 17}, {slots.Thing{ID: 2}, 18}}} {
		r := filled(t, m)
		for from := -3 * slots.Many; from <= 3*slots.Many; from++ {
			slot, steps, ok := r.Next(from)
			if ws, wsteps, wok := m.next(from); slot != ws || steps != wsteps || ok != wok {
				t.Errorf("Next(%d): %d, %d, %t, want %d, %d, %t", from, slot, steps, ok, ws, wsteps, wok)
			}
		}
		for _, from := range outside {
			slot, steps, ok := r.Next(from)
			if ws, wsteps, wok := m.next(from); slot != ws || steps != wsteps || ok != wok {
				t.Errorf("Next(%d): %d, %d, %t, want %d, %d, %t", from, slot, steps, ok, ws, wsteps, wok)
			}
		}
	}
	r := filled(t, model{{slots.Thing{ID: 1}, 5}})
	for _, x := range []struct{ from, steps int }{{5, 0}, {6, 63}, {4, 1}, {-1, 6}, {-59, 0}, {-58, 63}, {64, 5}, {math.MinInt, 5}, {math.MaxInt, 6}} {
		if slot, steps, ok := r.Next(x.from); slot != 5 || steps != x.steps || !ok {
			t.Errorf("Next(%d): %d, %d, %t, want 5, %d", x.from, slot, steps, ok, x.steps)
		}
	}
}

// P11.1, P11.2
func TestRingsThatNewDidNotCreate(t *testing.T) {
	for _, r := range []*slots.Ring{nil, {}, new(slots.Ring)} {
		for _, slot := range []int{0, 5, -1, 64, math.MinInt, math.MaxInt} {
			if e := r.Put(slot, slots.Thing{ID: 1}); e != api.ErrNil {
				t.Errorf("Put(%d): error %d", slot, int(e))
			}
			if l := r.Look(slot); l != nil {
				t.Errorf("Look(%d): %v", slot, l)
			}
			if l := r.Take(slot); l != nil {
				t.Errorf("Take(%d): %v", slot, l)
			}
			if s, steps, ok := r.Next(slot); s != 0 || steps != 0 || ok {
				t.Errorf("Next(%d): %d, %d, %t", slot, s, steps, ok)
			}
		}
		for _, id := range []uint64{0, 1} {
			if got, ok := r.Drop(id); got != (slots.Thing{}) || ok {
				t.Errorf("Drop: %v, %t", got, ok)
			}
			if got, slot, ok := r.Get(id); got != (slots.Thing{}) || slot != 0 || ok {
				t.Errorf("Get: %v, %d, %t", got, slot, ok)
			}
		}
		if r.Len() != 0 || r.Used() != 0 {
			t.Errorf("Len %d, Used %b", r.Len(), r.Used())
		}
	}
}

// P11.1: rings share no items, and a ring has no bound.
func TestRingsAreApart(t *testing.T) {
	const many = 3000
	a, b := slots.New(), slots.New()
	for id := range uint64(many) {
		if e := a.Put(5, slots.Thing{ID: id, Due: int64(id * 7919 % 1000)}); e != api.OK {
			t.Fatalf("Put: error %d", int(e))
		}
	}
	wantRing(t, "another ring", b, nil)
	l := a.Look(5)
	if a.Len() != many || len(l) != many || !slices.IsSortedFunc(l, func(x, y slots.Thing) int {
		if slots.Before(x, y) {
			return -1
		}
		return 1
	}) {
		t.Errorf("%d items, %d in the slot", a.Len(), len(l))
	}
	for id := uint64(0); id < many; id += 2 {
		if got, ok := a.Drop(id); got.ID != id || !ok {
			t.Fatalf("Drop(%d): %v, %t", id, got, ok)
		}
	}
	if got := a.Take(5); len(got) != many/2 || a.Len() != 0 || a.Used() != 0 {
		t.Errorf("Take: %d items, Len %d", len(got), a.Len())
	}
}

// P11.3: any calls, compared with a model.
func TestAnyCalls(t *testing.T) {
	random := rand.New(rand.NewPCG(11, 3))
	for range 150 {
		r, m := slots.New(), model{}
		// Few slots and IDs, so that items meet.
		width, ids := 1+random.IntN(slots.Many), 1+random.Uint64N(30)
		for range 60 {
			slot, id := random.IntN(width+2)-1, random.Uint64N(ids)
			switch at := m.index(id); random.IntN(8) {
			case 0:
				want := m.look(slot)
				if got := r.Take(slot); !slices.Equal(got, want) {
					t.Fatalf("Take(%d): %v, want %v", slot, got, want)
				}
				m = slices.DeleteFunc(m, func(w waiting) bool { return w.slot == slot })
			case 1, 2:
				want := waiting{}
				if at >= 0 {
					want = m[at]
					m = slices.Delete(m, at, at+1)
				}
				if got, ok := r.Drop(id); got != want.t || ok != (at >= 0) {
					t.Fatalf("Drop(%d): %v, %t, want %v", id, got, ok, want.t)
				}
			default:
				w := waiting{slots.Thing{ID: id, Gen: random.Uint64(), Due: random.Int64N(5)}, slot}
				want := api.OK
				if slot < 0 || slot >= slots.Many {
					want = api.ErrArg
				} else if at >= 0 {
					want = api.ErrThere
				} else {
					m = append(m, w)
				}
				if e := r.Put(slot, w.t); e != want {
					t.Fatalf("Put(%d, %v): error %d, want %d", slot, w.t, int(e), int(want))
				}
			}
			wantRing(t, "any calls", r, m)
			if t.Failed() {
				return
			}
		}
	}
}
