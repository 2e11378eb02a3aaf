package contract_test

import (
	"bytes"
	"math"
	"math/rand/v2"
	"slices"
	"sync"
	"testing"

	"curfew/api"
	"curfew/calendar"
	"curfew/contract"
	"curfew/quill"
)

// row returns the spans whose begins and ends are given.
func row(l ...int64) []api.Span {
	var r []api.Span
	for i := 0; i+1 < len(l); i += 2 {
		r = append(r, api.Span{From: l[i], To: l[i+1]})
	}
	return r
}

// levels returns n levels.
func levels(n int) []api.Level {
	var l []api.Level
	for i := range n {
		l = append(l, api.Level{Budget: int64(10 * (i + 1)), Party: i % api.MaxParties})
	}
	return l
}

// plain is a contract that is valid with each calendar.
func plain(calendar int) api.Contract {
	return api.Contract{Calendar: calendar, Levels: levels(2), Retry: 2, Backoff: 5}
}

// changed returns a plain contract after a change.
func changed(change func(c *api.Contract)) api.Contract {
	c := plain(0)
	change(&c)
	return c
}

// valid returns contracts with each bound.
func valid() []api.Contract {
	return []api.Contract{
		plain(0), plain(1), plain(api.MaxCalendars - 1), changed(func(c *api.Contract) { c.Levels = levels(1) }), changed(func(c *api.Contract) { c.Levels = levels(api.MaxLevels) }),
		changed(func(c *api.Contract) { c.Levels[0].Budget = 1 }), changed(func(c *api.Contract) { c.Levels[1].Budget = 1 }), changed(func(c *api.Contract) { c.Levels[0].Budget = api.Horizon }), changed(func(c *api.Contract) { c.Levels[1].Budget = api.Horizon }),
		changed(func(c *api.Contract) { c.Levels[0].Party = api.MaxParties - 1 }), changed(func(c *api.Contract) { c.Levels[1].Party = 0 }), changed(func(c *api.Contract) { c.Levels[1] = c.Levels[0] }),
		changed(func(c *api.Contract) { c.Retry = 1 }), changed(func(c *api.Contract) { c.Retry = api.MaxRetry }), changed(func(c *api.Contract) { c.Backoff = 1 }), changed(func(c *api.Contract) { c.Backoff = api.MaxBackoff }),
		{Calendar: api.MaxCalendars - 1, Levels: slices.Repeat([]api.Level{{Budget: api.Horizon, Party: api.MaxParties - 1}}, api.MaxLevels), Retry: api.MaxRetry, Backoff: api.MaxBackoff},
	}
}

// invalid returns contracts that are beyond each bound.
func invalid() []api.Contract {
	l := []api.Contract{{}, changed(func(c *api.Contract) { c.Levels = nil }), changed(func(c *api.Contract) { c.Levels = []api.Level{} }), changed(func(c *api.Contract) { c.Levels = levels(api.MaxLevels + 1) }), changed(func(c *api.Contract) { c.Levels = levels(1000) })}
	for _, n := range []int{-1, math.MinInt, math.MaxInt} {
		l = append(l, plain(n), changed(func(c *api.Contract) { c.Retry = n }))
		for i := range 2 {
			l = append(l, changed(func(c *api.Contract) { c.Levels[i].Party = n }), changed(func(c *api.Contract) { c.Levels[i].Budget = int64(n) }))
		}
		l = append(l, changed(func(c *api.Contract) { c.Backoff = int64(n) }))
	}
	for i := range 2 {
		l = append(l, changed(func(c *api.Contract) { c.Levels[i].Party = api.MaxParties }), changed(func(c *api.Contract) { c.Levels[i].Budget = 0 }), changed(func(c *api.Contract) { c.Levels[i].Budget = api.Horizon + 1 }))
	}
	return append(l, plain(api.MaxCalendars), changed(func(c *api.Contract) { c.Retry = 0 }), changed(func(c *api.Contract) { c.Retry = api.MaxRetry + 1 }), changed(func(c *api.Contract) { c.Backoff = 0 }), changed(func(c *api.Contract) { c.Backoff = api.MaxBackoff + 1 }))
}

// calendars returns a valid calendar for each number.
func calendars() []api.Calendar {
	return []api.Calendar{
		{Week: row(0, api.Week)}, {Week: row(10, 20)}, {}, {Offset: 7, Week: row(10, 20, 30, 40), Closed: row(18, 20)}, {Offset: api.Week - 1, Week: row(0, 1)}, {Closed: row(0, api.Horizon)}, {Week: row(10, 20), Closed: row(0, 5)}, {Offset: 1},
	}
}

func equal(a, b api.Contract) bool {
	return a.Calendar == b.Calendar && slices.Equal(a.Levels, b.Levels) && a.Retry == b.Retry && a.Backoff == b.Backoff
}

func empty(c api.Contract) bool { return c.Levels == nil && equal(c, api.Contract{}) }

func bare(c api.Calendar) bool { return c.Offset == 0 && c.Week == nil && c.Closed == nil }

// model is what a shelf has, by numbers.
type model struct {
	calendars map[int]api.Calendar
	contracts map[int]api.Contract
}

// wantShelf compares all that a shelf tells with a model.
func wantShelf(t *testing.T, what string, s *contract.Shelf, m model) {
	t.Helper()
	for n := -2; n < api.MaxContracts+2; n++ {
		plain, there := m.calendars[n]
		if got, ok := s.Plain(n); ok != there || !calendar.Same(got, plain) || !ok && !bare(got) {
			t.Errorf("%s: Plain(%d): %v, %t, want %v", what, n, got, ok, plain)
		}
		terms, there := m.contracts[n]
		if got, ok := s.Terms(n); ok != there || !equal(got, terms) || !ok && !empty(got) {
			t.Errorf("%s: Terms(%d): %v, %t, want %v", what, n, got, ok, terms)
		}
		if got, ok := s.Clock(n); ok != there || (got != nil) != there || !calendar.Same(got.Plain(), m.calendars[terms.Calendar]) && ok {
			t.Errorf("%s: Clock(%d): %v, %t", what, n, got.Plain(), ok)
		}
	}
	if got, want := written(s), byHand(m); !bytes.Equal(got, want) {
		t.Errorf("%s: Put %v, want %v", what, got, want)
	}
}

// written returns the encoding of a shelf.
func written(s *contract.Shelf) []byte {
	var w quill.Writer
	s.Put(&w)
	return w.Bytes()
}

// byHand returns the encoding of what a shelf has, as the chapter says.
func byHand(m model) []byte {
	var w quill.Writer
	w.Num(uint64(len(m.calendars)))
	for n := range 100 {
		if c, ok := m.calendars[n]; ok {
			w.Num(uint64(n))
			calendar.Put(&w, c)
		}
	}
	w.Num(uint64(len(m.contracts)))
	for n := range 100 {
		if c, ok := m.contracts[n]; ok {
			w.Num(uint64(n))
			putByHand(&w, c)
		}
	}
	return w.Bytes()
}

func putByHand(w *quill.Writer, c api.Contract) {
	w.Num(uint64(c.Calendar))
	w.Num(uint64(len(c.Levels)))
	for _, l := range c.Levels {
		w.Num(uint64(l.Budget))
		w.Num(uint64(l.Party))
	}
	w.Num(uint64(c.Retry))
	w.Num(uint64(c.Backoff))
}

// full returns what a shelf has that has no room left.
func full() model {
	m := model{calendars: map[int]api.Calendar{}, contracts: map[int]api.Contract{}}
	for n, c := range calendars() {
		m.calendars[n] = c
	}
	all := valid()
	for n := range api.MaxContracts {
		m.contracts[n] = all[n]
	}
	m.contracts[0] = all[len(all)-1]
	return m
}

// some returns what a shelf has that has only some calendars and contracts.
func some() model {
	return model{
		calendars: map[int]api.Calendar{1: calendars()[1], 3: calendars()[3], 7: calendars()[0]},
		contracts: map[int]api.Contract{0: plain(3), 5: plain(1), 15: plain(1)},
	}
}

// filled returns a shelf that has this, added in any order.
func filled(t testing.TB, m model, order []int) *contract.Shelf {
	t.Helper()
	s := contract.New()
	for _, n := range order {
		if c, ok := m.calendars[n]; ok {
			if e := s.Lay(n, c); e != api.OK {
				t.Fatalf("Lay(%d): error %d", n, int(e))
			}
		}
	}
	for _, n := range order {
		if c, ok := m.contracts[n]; ok {
			if e := s.Sign(n, c); e != api.OK {
				t.Fatalf("Sign(%d): error %d", n, int(e))
			}
		}
	}
	return s
}

// upward are the numbers of all contracts.
func upward() []int {
	var l []int
	for n := range api.MaxContracts {
		l = append(l, n)
	}
	return l
}

// P14.2: the chapter's example.
func TestExample(t *testing.T) {
	s := contract.New()
	if e := s.Sign(0, plain(1)); e != api.ErrNone {
		t.Errorf("Sign: error %d", int(e))
	}
	if e := s.Lay(0, calendars()[0]); e != api.OK {
		t.Errorf("Lay(0): error %d", int(e))
	}
	if e := s.Sign(0, plain(1)); e != api.ErrNone {
		t.Errorf("Sign after Lay of 0: error %d", int(e))
	}
	if e := s.Lay(1, calendars()[1]); e != api.OK {
		t.Errorf("Lay(1): error %d", int(e))
	}
	if e := s.Sign(0, plain(1)); e != api.OK {
		t.Errorf("Sign after Lay of 1: error %d", int(e))
	}
}

// P14.1
func TestCheck(t *testing.T) {
	for _, c := range valid() {
		if e := contract.Check(c); e != api.OK {
			t.Errorf("%v: error %d", c, int(e))
		}
	}
	for _, c := range invalid() {
		if e := contract.Check(c); e != api.ErrArg {
			t.Errorf("%v: error %d", c, int(e))
		}
	}
}

// P14.1
func TestCopy(t *testing.T) {
	for _, c := range append(valid(), invalid()...) {
		d := contract.Copy(c)
		if !equal(c, d) {
			t.Errorf("Copy of %v: %v", c, d)
		}
		before := slices.Clone(c.Levels)
		for i := range d.Levels {
			d.Levels[i] = api.Level{Budget: -1, Party: -1}
		}
		_ = append(d.Levels, api.Level{Budget: 7})
		if !slices.Equal(c.Levels, before) {
			t.Errorf("writing to a copy of %v gave %v", before, c.Levels)
		}
	}
	spare := levels(3)
	c := api.Contract{Levels: spare[:1]}
	_ = append(contract.Copy(c).Levels, api.Level{Budget: 7}, api.Level{Budget: 8})
	if !slices.Equal(spare, levels(3)) {
		t.Errorf("writing behind a copy gave %v", spare)
	}
}

// P14.1
func TestSame(t *testing.T) {
	all := append(valid(), invalid()...)
	for i, a := range all {
		for k, b := range all {
			if got := contract.Same(a, b); got != equal(a, b) || i == k && !got {
				t.Errorf("Same(%v, %v): %t", a, b, got)
			}
		}
	}
	for _, b := range []api.Contract{
		plain(1), changed(func(c *api.Contract) { c.Levels = levels(1) }), changed(func(c *api.Contract) { c.Levels = levels(3) }), changed(func(c *api.Contract) { c.Levels[1].Budget++ }), changed(func(c *api.Contract) { c.Levels[1].Party++ }),
		changed(func(c *api.Contract) { slices.Reverse(c.Levels) }), changed(func(c *api.Contract) { c.Retry++ }), changed(func(c *api.Contract) { c.Backoff++ }), changed(func(c *api.Contract) { c.Levels = nil }),
	} {
		if contract.Same(plain(0), b) || contract.Same(b, plain(0)) || !contract.Same(b, contract.Copy(b)) {
			t.Errorf("Same with %v", b)
		}
	}
	if !contract.Same(api.Contract{Levels: []api.Level{}}, api.Contract{}) {
		t.Error("an empty list is not the same as none")
	}
}

// encoded returns the encoding of a contract.
func encoded(c api.Contract) []byte {
	var w quill.Writer
	contract.Put(&w, c)
	return w.Bytes()
}

// P14.1: bytes written by hand, and those of the chapter's words.
func TestPut(t *testing.T) {
	want := []byte{1, 3, 1, 2, 2, 1, 44, 0, 1, 20, 1, 7, 1, 2, 1, 5}
	if got := encoded(api.Contract{Calendar: 3, Levels: []api.Level{{Budget: 300}, {Budget: 20, Party: 7}}, Retry: 2, Backoff: 5}); !bytes.Equal(got, want) {
		t.Errorf("%v, want %v", got, want)
	}
	for _, c := range append(valid(), invalid()...) {
		var w quill.Writer
		putByHand(&w, c)
		if got := encoded(c); !bytes.Equal(got, w.Bytes()) {
			t.Errorf("%v: %v, want %v", c, got, w.Bytes())
		}
	}
	contract.Put(nil, plain(0))
}

// P14.1: what was written is read, behind other things and before them.
func TestRead(t *testing.T) {
	for _, c := range valid() {
		var w quill.Writer
		w.Num(9)
		contract.Put(&w, c)
		w.Num(300)
		r := quill.Open(w.Bytes())
		r.Num(9)
		if got, ok := contract.Read(r); !equal(got, c) || !ok {
			t.Errorf("%v: %v, %t", c, got, ok)
		}
		if n := r.Num(300); n != 300 || r.End() != api.OK {
			t.Errorf("%v: then %d", c, n)
		}
		b := encoded(c)
		for i := range b {
			wantUnread(t, b[:i])
		}
	}
	for _, c := range invalid() {
		wantUnread(t, encoded(c))
	}
	// Numbers are longer than needed or negative.
	for _, b := range [][]byte{nil, {}, {0, 1, 1, 1, 10, 0, 1, 2}, {1, 0, 1, 1, 1, 10, 0, 1, 2, 1, 5}, {0, 1, 1, 2, 0, 10, 0, 1, 2, 1, 5}, {128, 1, 1, 1, 10, 0, 1, 2, 1, 5}, {0, 1, 1, 129, 10, 0, 1, 2, 1, 5}, {0, 1, 1, 1, 10, 0, 1, 2, 129, 5}, {0, 1, 1, 1, 10, 0, 1, 2, 9}} {
		wantUnread(t, b)
	}
	if c, ok := contract.Read(nil); ok || !empty(c) {
		t.Errorf("nil: %v, %t", c, ok)
	}
	bad := quill.Open(encoded(plain(0)))
	bad.Fail()
	if c, ok := contract.Read(bad); ok || !empty(c) {
		t.Errorf("a bad Reader: %v, %t", c, ok)
	}
}

// wantUnread reads bytes that must make the Reader bad.
func wantUnread(t *testing.T, b []byte) {
	t.Helper()
	r := quill.Open(b)
	if c, ok := contract.Read(r); ok || !empty(c) || !r.Bad() {
		t.Errorf("%v: %v, %t, Bad %t", b, c, ok, r.Bad())
	}
}

// P14.2
func TestLay(t *testing.T) {
	s := contract.New()
	m := model{calendars: map[int]api.Calendar{}}
	wantShelf(t, "new", s, m)
	long := row()
	for i := range int64(api.MaxSpans + 1) {
		long = append(long, api.Span{From: 2 * i, To: 2*i + 1})
	}
	refuse := func(n int, c api.Calendar, want api.Errno) {
		t.Helper()
		if e := s.Lay(n, c); e != want {
			t.Errorf("Lay(%d, %v): error %d, want %d", n, c, int(e), int(want))
		}
	}
	// The first error of several.
	check := func(there api.Errno) {
		t.Helper()
		for _, n := range []int{-1, api.MaxCalendars, math.MinInt, math.MaxInt} {
			refuse(n, calendars()[1], api.ErrArg)
			refuse(n, api.Calendar{Week: long}, api.ErrArg)
		}
		for n := range api.MaxCalendars {
			refuse(n, api.Calendar{Offset: -1}, api.ErrArg)
			refuse(n, api.Calendar{Offset: api.Week, Week: long}, api.ErrArg)
			refuse(n, api.Calendar{Week: long}, api.ErrLong)
			refuse(n, api.Calendar{Closed: long}, api.ErrLong)
			refuse(n, api.Calendar{Week: row(5, 5), Closed: long}, api.ErrArg)
			if there != api.OK {
				refuse(n, calendars()[n], there)
				refuse(n, calendars()[(n+1)%api.MaxCalendars], there)
			}
		}
	}
	check(api.OK)
	wantShelf(t, "after errors", s, m)
	for n, c := range calendars() {
		if e := s.Lay(n, c); e != api.OK {
			t.Errorf("Lay(%d): error %d", n, int(e))
		}
		m.calendars[n] = c
		wantShelf(t, "Lay", s, m)
	}
	check(api.ErrThere)
	wantShelf(t, "after errors", s, m)
}

// P14.2
func TestSign(t *testing.T) {
	m := model{calendars: map[int]api.Calendar{0: calendars()[0], 7: calendars()[1]}, contracts: map[int]api.Contract{}}
	s := filled(t, m, upward())
	refuse := func(n int, c api.Contract, want api.Errno) {
		t.Helper()
		if e := s.Sign(n, c); e != want {
			t.Errorf("Sign(%d, %v): error %d, want %d", n, c, int(e), int(want))
		}
	}
	// The first error of several.
	check := func() {
		t.Helper()
		for _, n := range []int{-1, api.MaxContracts, math.MinInt, math.MaxInt} {
			refuse(n, plain(0), api.ErrArg)
			refuse(n, plain(1), api.ErrArg)
		}
		for n := range api.MaxContracts {
			for _, c := range invalid() {
				refuse(n, c, api.ErrArg)
			}
			refuse(n, changed(func(c *api.Contract) { c.Calendar, c.Retry = 1, 0 }), api.ErrArg)
			for k := 1; k < api.MaxCalendars-1; k++ {
				refuse(n, plain(k), api.ErrNone)
			}
		}
	}
	check()
	wantShelf(t, "after errors", s, m)
	for n := range api.MaxContracts {
		c := api.Contract{Calendar: n % 2 * 7, Levels: levels(1 + n%api.MaxLevels), Retry: 1 + n%api.MaxRetry, Backoff: int64(n + 1)}
		if e := s.Sign(n, c); e != api.OK {
			t.Errorf("Sign(%d): error %d", n, int(e))
		}
		m.contracts[n] = c
		wantShelf(t, "Sign", s, m)
		refuse(n, c, api.ErrThere)
		refuse(n, plain(7), api.ErrThere)
		// Which calendar is missing stands before what is there.
		refuse(n, plain(3), api.ErrNone)
	}
	check()
	wantShelf(t, "after errors", s, m)
}

// P14.2: the same clock each time, and for all contracts of a calendar.
func TestClock(t *testing.T) {
	s := filled(t, some(), upward())
	first, ok := s.Clock(5)
	if !ok {
		t.Fatal("no clock")
	}
	if due, e := first.Due(15, 6); due != api.Week+11 || e != api.OK {
		t.Errorf("Due: %d, error %d", due, int(e))
	}
	other, _ := s.Clock(0)
	if due, e := other.Due(0, 5); due != 24 || e != api.OK || other == first {
		t.Errorf("another calendar's Due: %d, error %d", due, int(e))
	}
	s.Lay(0, calendars()[0])
	s.Sign(1, plain(0))
	for range 3 {
		if k, ok := s.Clock(5); k != first || !ok {
			t.Errorf("another clock, %t", ok)
		}
		if k, ok := s.Clock(15); k != first || !ok {
			t.Errorf("another clock of the same calendar, %t", ok)
		}
		if k, ok := s.Clock(0); k != other || !ok {
			t.Errorf("another clock of another calendar, %t", ok)
		}
	}
	for _, n := range []int{-1, 2, 3, 7, 14, 16, math.MinInt, math.MaxInt} {
		if k, ok := s.Clock(n); k != nil || ok {
			t.Errorf("Clock(%d): %v, %t", n, k, ok)
		}
	}
}

// P14.2: also if several request it at the same time.
func TestClockForSeveral(t *testing.T) {
	s := filled(t, full(), upward())
	var wait sync.WaitGroup
	got := make([]*calendar.Clock, 8*api.MaxContracts)
	for i := range got {
		wait.Go(func() { got[i], _ = s.Clock(i % api.MaxContracts) })
	}
	wait.Wait()
	for i, k := range got {
		want, _ := s.Clock(i % api.MaxContracts)
		if k != want || k == nil {
			t.Errorf("Clock(%d) was another one", i%api.MaxContracts)
		}
	}
}

// P14.2: writing to what was given or returned changes no shelf.
func TestListsAreApart(t *testing.T) {
	m := some()
	s := contract.New()
	shared := row(10, 20, 30, 40, 50, 60)
	s.Lay(0, api.Calendar{Week: shared[:2], Closed: shared[:1]})
	m.calendars[0] = api.Calendar{Week: row(10, 20, 30, 40), Closed: row(10, 20)}
	for _, n := range []int{1, 3, 7} {
		s.Lay(n, m.calendars[n])
	}
	list := levels(3)
	c := api.Contract{Calendar: 0, Levels: list[:2], Retry: 1, Backoff: 1}
	s.Sign(2, c)
	m.contracts[2] = contract.Copy(c)
	for _, n := range []int{0, 5, 15} {
		s.Sign(n, m.contracts[n])
	}
	if !slices.Equal(shared, row(10, 20, 30, 40, 50, 60)) || !slices.Equal(list, levels(3)) {
		t.Errorf("the arguments are %v, %v", shared, list)
	}
	clone := s.Clone()
	shared[0], list[0] = api.Span{From: 1, To: 2}, api.Level{Budget: 77}
	wantShelf(t, "after writing to arguments", s, m)
	for range 2 {
		p, _ := s.Plain(0)
		_ = append(p.Week[:1], api.Span{From: 3, To: 4})
		p.Week[0] = api.Span{From: 1, To: 2}
		if p.Closed[0] != (api.Span{From: 10, To: 20}) {
			t.Errorf("Closed shares memory with Week: %v", p.Closed)
		}
		p.Closed[0] = api.Span{From: 5, To: 6}
		l, _ := s.Terms(2)
		_ = append(l.Levels[:1], api.Level{Budget: 5})
		l.Levels[0].Budget = 99
	}
	wantShelf(t, "after writing to results", s, m)
	wantShelf(t, "after writing, the clone", clone, m)
}

// P14.2
func TestClone(t *testing.T) {
	for _, m := range []model{{}, some(), full()} {
		s := filled(t, m, upward())
		early := s.Clone()
		wantShelf(t, "the original", s, m)
		late := s.Clone()
		wantShelf(t, "a clone", early, m)
		wantShelf(t, "a clone after clocks were requested", late, m)
		for n := range m.contracts {
			a, _ := s.Clock(n)
			b, _ := early.Clock(n)
			c, _ := late.Clock(n)
			if a == b || a == c || b == c {
				t.Errorf("clock %d is shared", n)
			}
		}
		// What is added to the one is not in the others.
		for i, x := range []*contract.Shelf{s, early, late} {
			for n, c := range calendars() {
				x.Lay(n, c)
			}
			x.Sign(10, plain(i))
			for _, other := range []*contract.Shelf{s, early, late}[i+1:] {
				wantShelf(t, "another one", other, m)
			}
		}
	}
}

// P14.2, P14.3
func TestShelvesThatWereNotCreated(t *testing.T) {
	var none *contract.Shelf
	for _, s := range []*contract.Shelf{nil, {}, new(contract.Shelf), none.Clone(), (&contract.Shelf{}).Clone()} {
		for _, n := range []int{0, 5, -1, 100} {
			if e := s.Lay(n, calendars()[0]); e != api.ErrNil {
				t.Errorf("Lay: error %d", int(e))
			}
			if e := s.Lay(n, api.Calendar{Offset: -1}); e != api.ErrNil {
				t.Errorf("Lay of an invalid calendar: error %d", int(e))
			}
			if e := s.Sign(n, plain(0)); e != api.ErrNil {
				t.Errorf("Sign: error %d", int(e))
			}
			if e := s.Sign(n, api.Contract{}); e != api.ErrNil {
				t.Errorf("Sign of an invalid contract: error %d", int(e))
			}
			if c, ok := s.Terms(n); ok || !empty(c) {
				t.Errorf("Terms: %v, %t", c, ok)
			}
			if c, ok := s.Plain(n); ok || !bare(c) {
				t.Errorf("Plain: %v, %t", c, ok)
			}
			if k, ok := s.Clock(n); k != nil || ok {
				t.Errorf("Clock: %v, %t", k, ok)
			}
		}
		if b := written(s); len(b) != 0 {
			t.Errorf("Put %v", b)
		}
		s.Put(nil)
	}
}

// P14.3: bytes written by hand.
func TestShelfPut(t *testing.T) {
	s := contract.New()
	if b := written(s); !bytes.Equal(b, []byte{0, 0}) {
		t.Errorf("an empty shelf: %v", b)
	}
	s.Lay(7, api.Calendar{Offset: 3, Week: row(10, 20)})
	s.Lay(2, api.Calendar{Closed: row(5, 6)})
	s.Sign(15, api.Contract{Calendar: 2, Levels: []api.Level{{Budget: 9, Party: 4}}, Retry: 3, Backoff: 6})
	s.Sign(0, api.Contract{Calendar: 7, Levels: []api.Level{{Budget: 300}}, Retry: 1, Backoff: 8})
	want := []byte{1, 2, 1, 2, 0, 0, 1, 1, 1, 5, 1, 6, 1, 7, 1, 3, 1, 1, 1, 10, 1, 20, 0, 1, 2, 0, 1, 7, 1, 1, 2, 1, 44, 0, 1, 1, 1, 8, 1, 15, 1, 2, 1, 1, 1, 9, 1, 4, 1, 3, 1, 6}
	if b := written(s); !bytes.Equal(b, want) {
		t.Errorf("%v, want %v", b, want)
	}
	s.Put(nil)
}

// P14.3: what was written is read, behind other things and before them.
func TestLoad(t *testing.T) {
	for _, m := range []model{{}, {calendars: some().calendars}, some(), full()} {
		whole := written(filled(t, m, upward()))
		var w quill.Writer
		w.Num(9)
		w.Raw(whole)
		w.Num(300)
		r := quill.Open(w.Bytes())
		r.Num(9)
		s, ok := contract.Load(r)
		if !ok {
			t.Errorf("%v: nothing was read", m)
			continue
		}
		wantShelf(t, "loaded", s, m)
		if n := r.Num(300); n != 300 || r.End() != api.OK {
			t.Errorf("%v: then %d", m, n)
		}
		for i := range whole {
			wantNoShelf(t, whole[:i])
		}
	}
	wantNoShelf(t, nil)
	if s, ok := contract.Load(nil); s != nil || ok {
		t.Errorf("nil: %v, %t", s, ok)
	}
	bad := quill.Open([]byte{0, 0})
	bad.Fail()
	if s, ok := contract.Load(bad); s != nil || ok {
		t.Errorf("a bad Reader: %v, %t", s, ok)
	}
}

// wantNoShelf reads bytes that must make the Reader bad.
func wantNoShelf(t *testing.T, b []byte) {
	t.Helper()
	r := quill.Open(b)
	if s, ok := contract.Load(r); s != nil || ok || !r.Bad() {
		t.Errorf("%v: %v, %t, Bad %t", b, s, ok, r.Bad())
	}
}

// numbered is a thing with its number.
type numbered[T any] struct {
	n uint64
	c T
}

// shelf returns the encoding of calendars and contracts in any order, whether they may be or not.
func shelf(laid []numbered[api.Calendar], signed []numbered[api.Contract]) []byte {
	var w quill.Writer
	w.Num(uint64(len(laid)))
	for _, x := range laid {
		w.Num(x.n)
		calendar.Put(&w, x.c)
	}
	w.Num(uint64(len(signed)))
	for _, x := range signed {
		w.Num(x.n)
		putByHand(&w, x.c)
	}
	return w.Bytes()
}

// P14.3: numbers that do not ascend or do not exist, calendars and contracts that are invalid, and contracts without calendars.
func TestLoadOfWhatNoShelfHas(t *testing.T) {
	type laid = []numbered[api.Calendar]
	type signed = []numbered[api.Contract]
	open := calendars()[1]
	if s, ok := contract.Load(quill.Open(shelf(laid{{0, open}, {7, open}}, signed{{0, plain(7)}, {15, plain(0)}}))); s == nil || !ok {
		t.Error("what a shelf may have")
	}
	for _, b := range [][]byte{
		shelf(laid{{1, open}, {0, open}}, nil), shelf(laid{{1, open}, {1, open}}, nil), shelf(laid{{8, open}}, nil), shelf(laid{{math.MaxUint64, open}}, nil), shelf(laid{{0, open}, {2, open}, {1, open}}, nil), shelf(slices.Repeat(laid{{0, open}}, 9), nil),
		shelf(laid{{0, api.Calendar{Offset: -1}}}, nil), shelf(laid{{0, api.Calendar{Offset: api.Week}}}, nil), shelf(laid{{0, api.Calendar{Week: row(5, 5)}}}, nil), shelf(laid{{0, open}, {1, api.Calendar{Closed: row(5, 5)}}}, nil),
		shelf(laid{{0, open}}, signed{{1, plain(0)}, {0, plain(0)}}), shelf(laid{{0, open}}, signed{{1, plain(0)}, {1, plain(0)}}), shelf(laid{{0, open}}, signed{{16, plain(0)}}), shelf(laid{{0, open}}, signed{{math.MaxUint64, plain(0)}}),
		shelf(laid{{0, open}}, slices.Repeat(signed{{0, plain(0)}}, 17)), shelf(laid{{0, open}}, signed{{0, plain(1)}}), shelf(nil, signed{{0, plain(0)}}), shelf(laid{{0, open}}, signed{{0, plain(0)}, {1, plain(1)}}),
		{8}, {0, 129, 0}, {129, 0, 0}, {1, 0, 0},
	} {
		wantNoShelf(t, b)
	}
	for _, c := range invalid() {
		wantNoShelf(t, shelf(laid{{0, open}, {1, open}}, signed{{0, c}}))
	}
}

// P14.4
func TestOrderDoesNotMatter(t *testing.T) {
	random := rand.New(rand.NewPCG(14, 4))
	for _, m := range []model{some(), full()} {
		want := written(filled(t, m, upward()))
		for range 30 {
			s := filled(t, m, random.Perm(api.MaxContracts))
			if got := written(s); !bytes.Equal(got, want) {
				t.Fatalf("%v, want %v", got, want)
			}
			wantShelf(t, "another order", s, m)
		}
	}
	// Calendars and contracts in turn, with what is refused in between.
	for range 200 {
		s, m := contract.New(), model{calendars: map[int]api.Calendar{}, contracts: map[int]api.Contract{}}
		for range random.IntN(60) {
			n, k := random.IntN(api.MaxContracts+2)-1, random.IntN(api.MaxCalendars)
			if random.IntN(3) == 0 {
				c := calendars()[random.IntN(api.MaxCalendars)]
				if s.Lay(n, c) == api.OK {
					m.calendars[n] = c
				}
				continue
			}
			if c := plain(k); s.Sign(n, c) == api.OK {
				m.contracts[n] = c
			}
		}
		wantShelf(t, "any order", s, m)
		again, ok := contract.Load(quill.Open(written(s)))
		if !ok {
			t.Fatalf("not read: %v", written(s))
		}
		wantShelf(t, "loaded", again, m)
		wantShelf(t, "added again", filled(t, m, random.Perm(api.MaxContracts)), m)
	}
}

func FuzzLoad(f *testing.F) {
	f.Add([]byte{0, 0})
	f.Add(written(filled(f, some(), upward())))
	f.Fuzz(func(t *testing.T, b []byte) {
		r := quill.Open(b)
		s, ok := contract.Load(r)
		if ok == r.Bad() || ok != (s != nil) {
			t.Fatalf("%v, %t, Bad %t", s, ok, r.Bad())
		}
		if !ok {
			return
		}
		own := written(s)
		if !bytes.Equal(own, b[:len(b)-r.Left()]) {
			t.Fatalf("%v was read, and is written as %v", b, own)
		}
		if clone := written(s.Clone()); !bytes.Equal(clone, own) {
			t.Fatalf("%v, its clone is %v", own, clone)
		}
	})
}
