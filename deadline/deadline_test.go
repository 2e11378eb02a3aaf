package deadline_test

import (
	"bytes"
	"math"
	"math/rand/v2"
	"slices"
	"testing"

	"curfew/api"
	"curfew/deadline"
	"curfew/quill"
	"curfew/slots"
	"curfew/wheel"
)

// outside are numbers that are not instants.
var outside = []int64{-1, -2, math.MinInt64, math.MinInt64 + 1, api.Horizon + 1, 2 * api.Horizon, math.MaxInt64}

// things returns items of which the IDs, Gens and Dues are given.
func things(l ...int64) []slots.Thing {
	var r []slots.Thing
	for i := 0; i+2 < len(l); i += 3 {
		r = append(r, slots.Thing{ID: uint64(l[i]), Gen: uint64(l[i+1]), Due: l[i+2]})
	}
	return r
}

// crowd returns n items in order, with numbers from 1 on.
func crowd(n int) []slots.Thing {
	var r []slots.Thing
	for i := range n {
		r = append(r, slots.Thing{ID: uint64(1000 - i), Gen: uint64(n - i), Due: int64(i * i)})
	}
	return r
}

// sound returns states of all kinds, with each bound.
func sound() []deadline.State {
	return []deadline.State{
		{}, {Now: 5}, {Now: api.Horizon}, {Last: 1}, {Last: api.MaxIndex}, {Now: 5, Last: 300}, {Last: 1, Armed: things(7, 1, 10)}, {Last: 2, Armed: things(7, 2, 20)}, {Last: 2, Armed: things(7, 1, 20)},
		{Last: 3, Armed: things(3, 3, 10, 5, 1, 10, 4, 2, 11)}, {Now: 10, Last: 3, Armed: things(3, 3, 0, 5, 1, 10, 4, 2, 11)}, {Now: api.Horizon, Last: 2, Armed: things(1, 1, 0, 0, 2, api.Horizon)},
		{Now: 100, Last: api.MaxIndex, Armed: []slots.Thing{{ID: math.MaxUint64, Gen: api.MaxIndex, Due: 1 << 40}, {ID: 0, Gen: 1, Due: api.Horizon}}},
		{Now: 9, Last: wheel.Most, Armed: crowd(wheel.Most)}, {Now: 1 << 30, Last: api.MaxIndex - 1, Armed: crowd(wheel.Most - 1)},
	}
}

// unsound has states that no book has.
func unsound() []deadline.State {
	l := []deadline.State{
		{Last: api.MaxIndex + 1}, {Last: math.MaxUint64}, {Last: wheel.Most + 1, Armed: crowd(wheel.Most + 1)}, {Last: 2 * wheel.Most, Armed: crowd(2 * wheel.Most)},
		// Not in order.
		{Last: 2, Armed: things(1, 1, 20, 2, 2, 10)}, {Last: 2, Armed: things(2, 1, 10, 1, 2, 10)}, {Last: 3, Armed: things(1, 1, 5, 2, 2, 30, 3, 3, 29)}, {Last: 3, Armed: things(1, 1, 5, 4, 2, 30, 3, 3, 30)},
		// An ID or a Gen twice, beside one another or not.
		{Last: 2, Armed: things(1, 1, 10, 1, 2, 10)}, {Last: 2, Armed: things(1, 1, 10, 1, 2, 20)}, {Last: 3, Armed: things(1, 1, 10, 2, 2, 20, 1, 3, 30)}, {Last: 2, Armed: things(1, 1, 10, 1, 1, 10)},
		{Last: 2, Armed: things(1, 1, 10, 2, 1, 10)}, {Last: 2, Armed: things(1, 1, 10, 2, 1, 20)}, {Last: 3, Armed: things(1, 3, 10, 2, 2, 20, 3, 3, 30)}, {Last: 2, Armed: things(0, 1, 10, 0, 2, 20)},
		// Gens below 1 and above Last.
		{Last: 2, Armed: things(1, 0, 10)}, {Armed: things(1, 0, 10)}, {Armed: things(1, 1, 10)}, {Last: 2, Armed: things(1, 3, 10)}, {Last: 2, Armed: things(1, 1, 10, 2, 3, 20)}, {Last: 2, Armed: things(1, -1, 10)}, {Last: api.MaxIndex, Armed: things(1, api.MaxIndex+1, 10)},
	}
	for _, t := range outside {
		l = append(l, deadline.State{Now: t}, deadline.State{Now: t, Last: 1, Armed: things(1, 1, 10)}, deadline.State{Last: 1, Armed: things(1, 1, t)})
		if t < 0 {
			l = append(l, deadline.State{Last: 2, Armed: things(1, 1, t, 2, 2, 5)})
		} else {
			l = append(l, deadline.State{Last: 2, Armed: things(1, 1, 5, 2, 2, t)})
		}
	}
	return l
}

func equal(a, b deadline.State) bool {
	return a.Now == b.Now && a.Last == b.Last && slices.Equal(a.Armed, b.Armed)
}

// ordered returns items in the order of chapter 11, each inserted before the first one that comes after it.
func ordered(items []slots.Thing) []slots.Thing {
	var l []slots.Thing
	for _, x := range items {
		at := 0
		for at < len(l) && (l[at].Due < x.Due || l[at].Due == x.Due && l[at].ID < x.ID) {
			at++
		}
		l = slices.Insert(l, at, x)
	}
	return l
}

// wantBook compares all that a book tells with a state.
func wantBook(t *testing.T, what string, b *deadline.Book, want deadline.State) {
	t.Helper()
	if got := b.State(); !equal(got, want) {
		t.Errorf("%s: State %v, want %v", what, got, want)
	}
	for _, x := range want.Armed {
		if got, ok := b.Get(x.ID); got != x || !ok {
			t.Errorf("%s: Get(%d): %v, %t, want %v", what, x.ID, got, ok, x)
		}
	}
}

// loaded returns a book that must exist.
func loaded(t testing.TB, s deadline.State) *deadline.Book {
	t.Helper()
	b, e := deadline.Load(s)
	if b == nil || e != api.OK {
		t.Fatalf("Load(%v): error %d", s, int(e))
	}
	return b
}

// set makes a Set that must return a number.
func set(t testing.TB, b *deadline.Book, id uint64, due int64, want uint64) {
	t.Helper()
	if gen, e := b.Set(id, due); gen != want || e != api.OK {
		t.Errorf("Set(%d, %d): %d, error %d, want %d", id, due, gen, int(e), want)
	}
}

// refused makes a Set that must return an error and change nothing.
func refused(t testing.TB, b *deadline.Book, id uint64, due int64, want api.Errno) {
	t.Helper()
	before := b.State()
	if gen, e := b.Set(id, due); gen != 0 || e != want {
		t.Errorf("Set(%d, %d): %d, error %d, want error %d", id, due, gen, int(e), int(want))
	}
	if after := b.State(); !equal(after, before) {
		t.Errorf("Set(%d, %d) with an error: State %v, before %v", id, due, after, before)
	}
}

// P13.1: the chapter's example.
func TestExample(t *testing.T) {
	b := deadline.New(0)
	set(t, b, 7, 10, 1)
	set(t, b, 7, 20, 2)
	if l, e := b.Advance(15); len(l) != 0 || e != api.OK {
		t.Errorf("Advance(15): %v, error %d", l, int(e))
	}
	if l, e := b.Advance(20); !slices.Equal(l, things(7, 2, 20)) || e != api.OK {
		t.Errorf("Advance(20): %v, error %d", l, int(e))
	}
	wantBook(t, "then", b, deadline.State{Now: 20, Last: 2})
}

// P13.1
func TestNew(t *testing.T) {
	for _, now := range []int64{0, 1, 63, 64, 1 << 30, api.Horizon - 1, api.Horizon} {
		b := deadline.New(now)
		wantBook(t, "a new book", b, deadline.State{Now: now})
		for _, id := range []uint64{0, 1, math.MaxUint64} {
			if got, ok := b.Get(id); got != (slots.Thing{}) || ok {
				t.Errorf("Get(%d): %v, %t", id, got, ok)
			}
			if got, ok := b.Clear(id); got != (slots.Thing{}) || ok {
				t.Errorf("Clear(%d): %v, %t", id, got, ok)
			}
		}
		set(t, b, 0, now, 1)
		wantBook(t, "with one", b, deadline.State{Now: now, Last: 1, Armed: things(0, 1, now)})
	}
	for _, now := range outside {
		if deadline.New(now) != nil {
			t.Errorf("New(%d)", now)
		}
	}
}

// P13.1: each Set takes the next number, also if it arms an ID again, and whatever was cleared.
func TestSet(t *testing.T) {
	b := deadline.New(50)
	for i, x := range []struct {
		id   uint64
		due  int64
		want []slots.Thing
	}{
		{7, 100, things(7, 1, 100)}, {3, 100, things(3, 2, 100, 7, 1, 100)}, {7, 100, things(3, 2, 100, 7, 3, 100)}, {3, 1 << 40, things(7, 3, 100, 3, 4, 1<<40)}, {3, 60, things(3, 5, 60, 7, 3, 100)},
		{0, api.Horizon, things(3, 5, 60, 7, 3, 100, 0, 6, api.Horizon)}, {9, 50, things(9, 7, 50, 3, 5, 60, 7, 3, 100, 0, 6, api.Horizon)}, {7, 0, things(7, 8, 0, 9, 7, 50, 3, 5, 60, 0, 6, api.Horizon)},
		{math.MaxUint64, 50, []slots.Thing{{ID: 7, Gen: 8}, {ID: 9, Gen: 7, Due: 50}, {ID: math.MaxUint64, Gen: 9, Due: 50}, {ID: 3, Gen: 5, Due: 60}, {ID: 0, Gen: 6, Due: api.Horizon}}},
	} {
		set(t, b, x.id, x.due, uint64(i+1))
		wantBook(t, "Set", b, deadline.State{Now: 50, Last: uint64(i + 1), Armed: x.want})
	}
	b.Clear(7)
	b.Clear(math.MaxUint64)
	set(t, b, 7, 70, 10)
	b.Advance(80)
	set(t, b, 7, 90, 11)
	wantBook(t, "at last", b, deadline.State{Now: 80, Last: 11, Armed: things(7, 11, 90, 0, 6, api.Horizon)})
}

// P13.1: errors in their order, with which nothing changes.
func TestSetErrors(t *testing.T) {
	b := deadline.New(5)
	set(t, b, 1, 10, 1)
	for _, due := range outside {
		refused(t, b, 1, due, api.ErrArg)
		refused(t, b, 2, due, api.ErrArg)
	}
	set(t, b, 2, 10, 2)
	full := deadline.State{Last: wheel.Most, Armed: crowd(wheel.Most)}
	b = loaded(t, full)
	for _, due := range []int64{0, 10, 1 << 40, api.Horizon} {
		refused(t, b, 1, due, api.ErrFull)
		refused(t, b, 1001, due, api.ErrFull)
	}
	refused(t, b, 1, -1, api.ErrArg)
	set(t, b, 1000, 1<<40, wheel.Most+1)
	refused(t, b, 1, 10, api.ErrFull)
	b.Clear(1000)
	set(t, b, 1, 10, wheel.Most+2)
	refused(t, b, 1000, 10, api.ErrFull)
	b.Advance(10)
	set(t, b, 1000, 10, wheel.Most+3)
	// The last number of all stands before what is full, behind what is no instant.
	full.Last = api.MaxIndex
	b = loaded(t, full)
	refused(t, b, 1000, 10, api.ErrBig)
	refused(t, b, 1, 10, api.ErrBig)
	refused(t, b, 1, api.Horizon+1, api.ErrArg)
	refused(t, b, 1000, -1, api.ErrArg)
	b = loaded(t, deadline.State{Last: api.MaxIndex - 1})
	set(t, b, 1, 10, api.MaxIndex)
	refused(t, b, 1, 10, api.ErrBig)
	refused(t, b, 2, 10, api.ErrBig)
	if l, e := b.Advance(10); !slices.Equal(l, things(1, api.MaxIndex, 10)) || e != api.OK {
		t.Errorf("Advance: %v, error %d", l, int(e))
	}
	refused(t, b, 2, 10, api.ErrBig)
}

// P13.1
func TestClearAndGet(t *testing.T) {
	for _, s := range sound() {
		for i, x := range s.Armed {
			b := loaded(t, s)
			want := s
			want.Armed = slices.Delete(slices.Clone(s.Armed), i, i+1)
			if got, ok := b.Clear(x.ID); got != x || !ok {
				t.Errorf("Clear(%d): %v, %t, want %v", x.ID, got, ok, x)
			}
			for range 2 {
				if got, ok := b.Get(x.ID); got != (slots.Thing{}) || ok {
					t.Errorf("Get(%d) after Clear: %v, %t", x.ID, got, ok)
				}
				if got, ok := b.Clear(x.ID); got != (slots.Thing{}) || ok {
					t.Errorf("Clear(%d) again: %v, %t", x.ID, got, ok)
				}
			}
			if i < 20 {
				wantBook(t, "after Clear", b, want)
			}
			if l, _ := b.Advance(api.Horizon); !slices.Equal(l, want.Armed) {
				t.Errorf("Advance after Clear(%d): %v", x.ID, l)
			}
		}
	}
}

// P13.1, P13.3
func TestAdvance(t *testing.T) {
	start := deadline.State{Now: 10, Last: 9, Armed: things(3, 9, 4, 1, 2, 11, 5, 8, 11, 4, 3, 64, 2, 7, 4096, 6, 1, 1<<40, 0, 5, api.Horizon)}
	for _, x := range []struct {
		to   int64
		many int
	}{{10, 1}, {11, 3}, {12, 3}, {63, 3}, {64, 4}, {4095, 4}, {4096, 5}, {1 << 30, 5}, {1<<40 - 1, 5}, {1 << 40, 6}, {api.Horizon - 1, 6}, {api.Horizon, 7}} {
		b := loaded(t, start)
		if l, e := b.Advance(x.to); !slices.Equal(l, start.Armed[:x.many]) || e != api.OK {
			t.Errorf("Advance(%d): %v, error %d", x.to, l, int(e))
		}
		wantBook(t, "after Advance", b, deadline.State{Now: x.to, Last: 9, Armed: start.Armed[x.many:]})
		if l, e := b.Advance(x.to); len(l) != 0 || e != api.OK {
			t.Errorf("Advance(%d) again: %v, error %d", x.to, l, int(e))
		}
	}
	b := loaded(t, start)
	for _, to := range outside {
		if l, e := b.Advance(to); l != nil || e != api.ErrArg {
			t.Errorf("Advance(%d): %v, error %d", to, l, int(e))
		}
	}
	for _, to := range []int64{9, 4, 0} {
		if l, e := b.Advance(to); l != nil || e != api.ErrOld {
			t.Errorf("Advance(%d): %v, error %d", to, l, int(e))
		}
	}
	wantBook(t, "after errors", b, start)
}

// P13.1
func TestClone(t *testing.T) {
	for _, s := range sound() {
		b := loaded(t, s)
		c := b.Clone()
		wantBook(t, "a clone", c, s)
		// What happens to the one does not happen to the other.
		b.Clear(7)
		b.Advance(api.Horizon)
		b.Set(1, 5)
		wantBook(t, "a clone, after changes of the original", c, s)
		b = loaded(t, s)
		c = b.Clone()
		c.Clear(7)
		c.Set(1, 5)
		c.Advance(api.Horizon)
		wantBook(t, "the original, after changes of a clone", b, s)
	}
}

// P13.1, P13.2: writing to what was given or returned changes no book.
func TestListsAreApart(t *testing.T) {
	given := things(3, 3, 10, 5, 1, 10, 4, 2, 11)
	want := deadline.State{Last: 3, Armed: slices.Clone(given)}
	b := loaded(t, deadline.State{Last: 3, Armed: given[:3:3]})
	c := b.Clone()
	given[0] = slots.Thing{}
	s := b.State()
	s.Armed[1] = slots.Thing{}
	_ = append(s.Armed[:0], given...)
	wantBook(t, "after writing", b, want)
	wantBook(t, "after writing, the clone", c, want)
	l, _ := b.Advance(10)
	l[0] = slots.Thing{}
	_ = append(l, slots.Thing{ID: 9})
	wantBook(t, "after Advance", b, deadline.State{Now: 10, Last: 3, Armed: want.Armed[2:]})
	spare := append(slices.Clone(want.Armed), slots.Thing{ID: 99})
	deadline.Load(deadline.State{Last: 3, Armed: spare[:3]})
	if !slices.Equal(spare, append(slices.Clone(want.Armed), slots.Thing{ID: 99})) {
		t.Errorf("Load changed its argument to %v", spare)
	}
}

// P13.1
func TestBooksThatWereNotCreated(t *testing.T) {
	var none *deadline.Book
	for _, b := range []*deadline.Book{nil, {}, new(deadline.Book), deadline.New(-1), none.Clone(), (&deadline.Book{}).Clone()} {
		for _, at := range []int64{0, 5, -1, api.Horizon, api.Horizon + 1} {
			if gen, e := b.Set(1, at); gen != 0 || e != api.ErrNil {
				t.Errorf("Set: %d, error %d", gen, int(e))
			}
			if l, e := b.Advance(at); l != nil || e != api.ErrNil {
				t.Errorf("Advance: %v, error %d", l, int(e))
			}
		}
		for _, id := range []uint64{0, 1} {
			if got, ok := b.Get(id); got != (slots.Thing{}) || ok {
				t.Errorf("Get: %v, %t", got, ok)
			}
			if got, ok := b.Clear(id); got != (slots.Thing{}) || ok {
				t.Errorf("Clear: %v, %t", got, ok)
			}
		}
		if s := b.State(); s.Now != 0 || s.Last != 0 || s.Armed != nil {
			t.Errorf("State %v", s)
		}
	}
}

// P13.2
func TestSoundAndLoad(t *testing.T) {
	for _, s := range sound() {
		if !deadline.Sound(s) {
			t.Errorf("not Sound: %v", s)
		}
		wantBook(t, "loaded", loaded(t, s), s)
	}
	for _, s := range unsound() {
		if deadline.Sound(s) {
			t.Errorf("Sound: %v", s)
		}
		if b, e := deadline.Load(s); b != nil || e != api.ErrArg {
			t.Errorf("Load(%v): error %d", s, int(e))
		}
	}
}

// P13.2
func TestSame(t *testing.T) {
	all := append(sound(), unsound()...)
	for i, a := range all {
		for k, b := range all {
			if got := deadline.Same(a, b); got != equal(a, b) || i == k && !got {
				t.Errorf("Same(%v, %v): %t", a, b, got)
			}
		}
	}
	a := deadline.State{Now: 1, Last: 3, Armed: things(1, 2, 3, 2, 3, 4)}
	for _, b := range []deadline.State{
		{Now: 2, Last: 3, Armed: a.Armed}, {Now: 1, Last: 4, Armed: a.Armed}, {Now: 1, Last: 3, Armed: a.Armed[:1]}, {Now: 1, Last: 3}, {Now: 1, Last: 3, Armed: things(9, 2, 3, 2, 3, 4)}, {Now: 1, Last: 3, Armed: things(1, 9, 3, 2, 3, 4)},
		{Now: 1, Last: 3, Armed: things(1, 2, 3, 2, 3, 9)}, {Now: 1, Last: 3, Armed: things(2, 3, 4, 1, 2, 3)}, {Now: 1, Last: 3, Armed: things(1, 2, 3, 2, 3, 4, 3, 1, 5)},
	} {
		if deadline.Same(a, b) || deadline.Same(b, a) {
			t.Errorf("Same(%v, %v)", a, b)
		}
	}
	if !deadline.Same(deadline.State{Armed: []slots.Thing{}}, deadline.State{}) {
		t.Error("an empty list is not the same as none")
	}
}

// encoded returns the encoding of a state.
func encoded(s deadline.State) []byte {
	var w quill.Writer
	deadline.Put(&w, s)
	return w.Bytes()
}

// P13.2: bytes written by hand.
func TestPut(t *testing.T) {
	for _, x := range []struct {
		s    deadline.State
		want []byte
	}{
		{deadline.State{}, []byte{0, 0, 0}}, {deadline.State{Now: 300, Last: 7}, []byte{2, 1, 44, 1, 7, 0}}, {deadline.State{Now: -300}, []byte{130, 1, 43, 0, 0}},
		{deadline.State{Now: 5, Last: 4, Armed: things(7, 2, 300, 0, 4, 301)}, []byte{1, 5, 1, 4, 1, 2, 1, 7, 1, 2, 2, 1, 44, 0, 1, 4, 2, 1, 45}},
		{deadline.State{Last: api.MaxIndex}, []byte{0, 8, 16, 0, 0, 0, 0, 0, 0, 0, 0}},
	} {
		if got := encoded(x.s); !bytes.Equal(got, x.want) {
			t.Errorf("%v: %v, want %v", x.s, got, x.want)
		}
	}
	deadline.Put(nil, deadline.State{Last: 1, Armed: things(1, 1, 1)})
}

// P13.2: what was written is read, behind other things and before them.
func TestRead(t *testing.T) {
	for _, s := range sound() {
		var w quill.Writer
		w.Num(9)
		deadline.Put(&w, s)
		w.Num(300)
		r := quill.Open(w.Bytes())
		r.Num(9)
		if got, ok := deadline.Read(r); !equal(got, s) || !ok {
			t.Errorf("%v: %v, %t", s, got, ok)
		}
		if n := r.Num(300); n != 300 || r.End() != api.OK {
			t.Errorf("%v: then %d", s, n)
		}
		b := encoded(s)
		for i := range min(len(b), 40) {
			wantUnread(t, b[:i])
			wantUnread(t, b[:len(b)-1-i])
		}
	}
	for _, s := range unsound() {
		wantUnread(t, encoded(s))
	}
	// The count is above that of any book, numbers are longer than needed or negative.
	for _, b := range [][]byte{nil, {}, {0, 0, 2, 1, 1}, {0, 0, 8, 255, 255, 255, 255, 255, 255, 255, 255}, {1, 0, 0, 0}, {0, 1, 0, 0}, {0, 0, 1, 0}, {0, 1, 1, 1, 1, 1, 7, 1, 1, 1}, {0, 1, 1, 1, 1, 1, 7, 1, 1, 129, 5}, {0, 129, 1, 0}, {128, 0, 0}} {
		wantUnread(t, b)
	}
	if s, ok := deadline.Read(nil); ok || !equal(s, deadline.State{}) {
		t.Errorf("nil: %v, %t", s, ok)
	}
	bad := quill.Open([]byte{0, 0, 0})
	bad.Fail()
	if s, ok := deadline.Read(bad); ok || !equal(s, deadline.State{}) {
		t.Errorf("a bad Reader: %v, %t", s, ok)
	}
}

// wantUnread reads bytes that must make the Reader bad.
func wantUnread(t *testing.T, b []byte) {
	t.Helper()
	r := quill.Open(b)
	if s, ok := deadline.Read(r); ok || s.Now != 0 || s.Last != 0 || s.Armed != nil || !r.Bad() {
		t.Errorf("%v: %v, %t, Bad %t", b, s, ok, r.Bad())
	}
}

// model is a book as a list in any order.
type model struct {
	deadline.State
	met map[uint64]int
}

func (m *model) index(id uint64) int {
	return slices.IndexFunc(m.Armed, func(t slots.Thing) bool { return t.ID == id })
}

// remove returns and removes the item with an ID.
func (m *model) remove(id uint64) (slots.Thing, bool) {
	i := m.index(id)
	if i < 0 {
		return slots.Thing{}, false
	}
	x := m.Armed[i]
	m.Armed = slices.Delete(m.Armed, i, i+1)
	return x, true
}

// makeCall makes one call of the book and of the model, and compares the results.
func makeCall(t *testing.T, b *deadline.Book, m *model, what int, id uint64, at int64) {
	t.Helper()
	switch what {
	case 0:
		var want, rest []slots.Thing
		for _, x := range m.Armed {
			if x.Due <= at {
				want = append(want, x)
			} else {
				rest = append(rest, x)
			}
		}
		m.Now, m.Armed = at, rest
		l, e := b.Advance(at)
		if !slices.Equal(l, ordered(want)) || e != api.OK {
			t.Fatalf("Advance(%d): %v, error %d, want %v", at, l, int(e), want)
		}
		for _, x := range l {
			m.met[x.Gen]++
			if m.met[x.Gen] > 1 {
				t.Fatalf("%v was returned again", x)
			}
		}
	case 1:
		want, there := m.remove(id)
		if got, ok := b.Clear(id); got != want || ok != there {
			t.Fatalf("Clear(%d): %v, %t, want %v", id, got, ok, want)
		}
	default:
		if m.index(id) < 0 && len(m.Armed) >= wheel.Most {
			refused(t, b, id, at, api.ErrFull)
			return
		}
		m.remove(id)
		m.Last++
		m.Armed = append(m.Armed, slots.Thing{ID: id, Gen: m.Last, Due: at})
		set(t, b, id, at, m.Last)
	}
}

// P13.1 to P13.3: any calls, compared with a model; in between the book is cloned, or loaded, also from bytes.
func TestAnyCalls(t *testing.T) {
	random := rand.New(rand.NewPCG(13, 1))
	for range 100 {
		start := deadline.State{Now: random.Int64N(1 << (1 + random.IntN(50))), Last: random.Uint64N(api.MaxIndex / 2)}
		b, m := loaded(t, start), &model{State: start, met: map[uint64]int{}}
		scale, ids := int64(1)<<(1+random.IntN(32)), uint64(1+random.IntN(2*wheel.Most))
		for range 600 {
			at := min(max(0, m.Now-3+random.Int64N(scale)), api.Horizon)
			what := random.IntN(30)
			if what == 0 {
				at = max(at, m.Now)
			}
			makeCall(t, b, m, min(what, 4), random.Uint64N(ids), at)
			if t.Failed() {
				return
			}
			switch random.IntN(60) {
			case 0:
				b = b.Clone()
			case 1:
				b = loaded(t, b.State())
			case 2:
				s, _ := deadline.Read(quill.Open(encoded(b.State())))
				b = loaded(t, s)
			case 3:
				want := m.State
				want.Armed = ordered(m.Armed)
				wantBook(t, "any calls", b, want)
				if !deadline.Sound(b.State()) {
					t.Fatalf("State %v is not Sound", b.State())
				}
			}
		}
	}
}

// P13.3: a book that was loaded, and a clone, continue like the original.
func TestContinues(t *testing.T) {
	for _, s := range sound() {
		a, b := loaded(t, s), loaded(t, s)
		c := a.Clone()
		for i := range int64(40) {
			id, at := uint64(i%7), min(s.Now+i*i*i*i*i*i, api.Horizon)
			l, e := a.Advance(at)
			gen, why := a.Set(id, min(at+i*1000, api.Horizon))
			x, ok := a.Clear(uint64(i % 5))
			for _, other := range []*deadline.Book{b, c} {
				if got, e2 := other.Advance(at); !slices.Equal(got, l) || e2 != e {
					t.Fatalf("Advance: %v, error %d, want %v, error %d", got, int(e2), l, int(e))
				}
				if got, why2 := other.Set(id, min(at+i*1000, api.Horizon)); got != gen || why2 != why {
					t.Fatalf("Set: %d, error %d, want %d, error %d", got, int(why2), gen, int(why))
				}
				if got, ok2 := other.Clear(uint64(i % 5)); got != x || ok2 != ok {
					t.Fatalf("Clear: %v, %t, want %v, %t", got, ok2, x, ok)
				}
				wantBook(t, "continued", other, a.State())
			}
		}
	}
}

func FuzzRead(f *testing.F) {
	for _, s := range append(sound(), unsound()...) {
		if len(s.Armed) < 10 {
			f.Add(encoded(s))
		}
	}
	f.Fuzz(func(t *testing.T, b []byte) {
		r := quill.Open(b)
		s, ok := deadline.Read(r)
		if ok == r.Bad() || ok && !deadline.Sound(s) || !ok && !equal(s, deadline.State{}) {
			t.Fatalf("%v, %t, Bad %t", s, ok, r.Bad())
		}
		if !ok {
			return
		}
		if own := encoded(s); !bytes.Equal(own, b[:len(b)-r.Left()]) {
			t.Fatalf("%v was read as %v, whose encoding is %v", b, s, own)
		}
		book := loaded(t, s)
		wantBook(t, "loaded", book, s)
		if l, e := book.Advance(api.Horizon); !slices.Equal(l, s.Armed) || e != api.OK {
			t.Fatalf("Advance: %v, error %d, want %v", l, int(e), s.Armed)
		}
	})
}
