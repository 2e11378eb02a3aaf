package calendar_test

import (
	"bytes"
	"math"
	"math/rand/v2"
	"slices"
	"sync"
	"testing"

	"curfew/api"
	"curfew/calendar"
	"curfew/quill"
)

// row returns the spans whose begins and ends are given.
func row(l ...int64) []api.Span {
	var r []api.Span
	for i := 0; i+1 < len(l); i += 2 {
		r = append(r, api.Span{From: l[i], To: l[i+1]})
	}
	return r
}

// comb returns n spans of size seconds, one every step seconds.
func comb(n int, from, size, step int64) []api.Span {
	var r []api.Span
	for i := range int64(n) {
		r = append(r, api.Span{From: from + i*step, To: from + i*step + size})
	}
	return r
}

// always is open at each instant, never at none.
var (
	always = api.Calendar{Week: row(0, api.Week)}
	never  = api.Calendar{}
)

// valid returns calendars of all kinds: with each bound of Offset, weeks that are open at their ends, closures at the ends of time, and some that hardly ever open.
func valid() []api.Calendar {
	last := (api.Horizon - 1) % int64(api.Week)
	return []api.Calendar{
		always, never, {Week: row(10, 20)}, {Offset: 1, Week: row(10, 20)}, {Offset: 15, Week: row(10, 20)}, {Offset: api.Week - 1, Week: row(10, 20)}, {Offset: api.Week - 15, Week: row(10, 20)},
		{Offset: 5, Week: row(0, 5, api.Week-5, api.Week)}, {Offset: api.Week - 1, Week: row(0, 1)}, {Offset: 1, Week: row(api.Week-1, api.Week)}, {Week: row(last, last+1)}, {Week: row(last-1, last)}, {Week: row(last+1, last+2)},
		{Week: row(0, api.Week), Closed: row(10, 20, 30, 40)}, {Offset: 7, Week: row(10, 20, 20, 30), Closed: row(0, 5, 18, 19, 19, 22, api.Week, 2*api.Week)}, {Week: row(10, 20), Closed: row(0, 5*api.Week)},
		{Week: row(10, 20), Closed: row(0, api.Horizon)}, {Week: row(0, api.Week), Closed: row(0, api.Horizon-1)}, {Week: row(0, api.Week), Closed: row(1, api.Horizon)}, {Week: row(0, api.Week), Closed: row(api.Horizon-1, api.Horizon)},
		{Offset: 3, Week: row(10, 20), Closed: row(13, 23)}, {Offset: 3, Week: comb(api.MaxSpans, 7, 9000, 18000), Closed: comb(api.MaxSpans, 0, 50000, 100000)}, {Offset: 86400, Week: comb(5, 32400, 28800, 86400), Closed: comb(api.MaxSpans, 86400, 86400, 20*86400)},
		{Week: nil, Closed: row(5, 10)}, {Offset: api.Week - 1}, {Offset: 100, Week: comb(api.MaxSpans, 0, 1, 1), Closed: comb(api.MaxSpans, 0, 1<<44, 1<<45)},
	}
}

// invalid has calendars that Check does not accept, and why.
func invalid() []struct {
	c    api.Calendar
	want api.Errno
} {
	long := comb(api.MaxSpans+1, 0, 1, 2)
	return []struct {
		c    api.Calendar
		want api.Errno
	}{
		{api.Calendar{Offset: -1, Week: row(10, 20)}, api.ErrArg}, {api.Calendar{Offset: api.Week, Week: row(10, 20)}, api.ErrArg}, {api.Calendar{Offset: math.MinInt64}, api.ErrArg}, {api.Calendar{Offset: math.MaxInt64}, api.ErrArg},
		{api.Calendar{Week: row(10, 10)}, api.ErrArg}, {api.Calendar{Week: row(-1, 10)}, api.ErrArg}, {api.Calendar{Week: row(20, 10)}, api.ErrArg}, {api.Calendar{Week: row(0, api.Week+1)}, api.ErrArg}, {api.Calendar{Week: row(0, 10, 9, 20)}, api.ErrArg},
		{api.Calendar{Week: row(20, 30, 0, 10)}, api.ErrArg}, {api.Calendar{Week: row(api.Week, api.Week+1)}, api.ErrArg}, {api.Calendar{Week: long}, api.ErrLong}, {api.Calendar{Week: row(0, api.Horizon)}, api.ErrArg},
		{api.Calendar{Week: row(10, 20), Closed: row(10, 10)}, api.ErrArg}, {api.Calendar{Closed: row(-1, 10)}, api.ErrArg}, {api.Calendar{Closed: row(0, api.Horizon+1)}, api.ErrArg}, {api.Calendar{Closed: row(0, 10, 9, 20)}, api.ErrArg}, {api.Calendar{Closed: long}, api.ErrLong},
		{api.Calendar{Closed: row(math.MinInt64, math.MaxInt64)}, api.ErrArg}, {api.Calendar{Closed: row(20, 30, 0, 10)}, api.ErrArg},
		// Of several errors the first.
		{api.Calendar{Offset: -1, Week: long, Closed: long}, api.ErrArg}, {api.Calendar{Offset: api.Week, Week: long}, api.ErrArg}, {api.Calendar{Week: long, Closed: row(5, 5)}, api.ErrLong}, {api.Calendar{Week: row(5, 5), Closed: long}, api.ErrArg},
	}
}

// made returns a clock that must exist.
func made(t testing.TB, c api.Calendar) *calendar.Clock {
	t.Helper()
	k, e := calendar.New(c)
	if k == nil || e != api.OK {
		t.Fatalf("New(%v): error %d", c, int(e))
	}
	return k
}

// has reports whether one of the spans contains t.
func has(l []api.Span, t int64) bool {
	return slices.ContainsFunc(l, func(s api.Span) bool { return s.From <= t && t < s.To })
}

// open is what the chapter says of an instant.
func open(c api.Calendar, t int64) bool {
	second := (t - c.Offset) % api.Week
	if second < 0 {
		second += api.Week
	}
	return !has(c.Closed, t) && has(c.Week, second)
}

// planned returns how many seconds the weeks of c have before t, less those before its first one, which may be negative.
func planned(c api.Calendar, t int64) int64 {
	t -= c.Offset
	weeks := t / api.Week
	if t%api.Week < 0 {
		weeks--
	}
	rest, n := t-weeks*api.Week, int64(0)
	for _, s := range c.Week {
		n += weeks * (s.To - s.From)
		n += max(0, min(rest, s.To)-s.From)
	}
	return n
}

// elapsed returns the number of open instants from from up to to: those of the plan, less those that are closed.
func elapsed(c api.Calendar, from, to int64) int64 {
	n := planned(c, to) - planned(c, from)
	for _, s := range c.Closed {
		if a, b := max(s.From, from), min(s.To, to); a < b {
			n -= planned(c, b) - planned(c, a)
		}
	}
	return n
}

// places returns instants around the begins and the ends of spans in several weeks, around those of closures and around those of time.
func places(c api.Calendar) []int64 {
	p := []int64{0, 1, 5, api.Week - 1, api.Week, api.Week + 1, api.Horizon / 3, api.Horizon - api.Week, api.Horizon - 2, api.Horizon - 1, api.Horizon}
	for i, s := range c.Week {
		if i < 2 || i > len(c.Week)-2 {
			for _, weeks := range []int64{-1, 0, 1, 1 << 20} {
				from, to := weeks*api.Week+s.From+c.Offset, weeks*api.Week+s.To+c.Offset
				p = append(p, from-1, from, from+1, to-1, to, to+1)
			}
		}
	}
	for i, s := range c.Closed {
		if i < 2 || i > len(c.Closed)-2 {
			p = append(p, s.From-1, s.From, s.From+1, s.To-1, s.To, s.To+1)
		}
	}
	p = slices.DeleteFunc(p, func(t int64) bool { return t < 0 || t > api.Horizon })
	slices.Sort(p)
	return slices.Compact(p)
}

// outside are numbers that are not instants.
var outside = []int64{-1, -2, -api.Week, math.MinInt64, math.MinInt64 + 1, api.Horizon + 1, api.Horizon + 2, 2 * api.Horizon, math.MaxInt64 - 1, math.MaxInt64}

// P10.2: the chapter's example, and those of the whole about a ticket's due.
func TestExample(t *testing.T) {
	k := made(t, api.Calendar{Week: row(10, 20)})
	for _, x := range []struct{ start, budget, want int64 }{{0, 5, 15}, {15, 6, api.Week + 11}, {18, 5, api.Week + 13}} {
		if got, e := k.Due(x.start, x.budget); got != x.want || e != api.OK {
			t.Errorf("Due(%d, %d): %d, error %d", x.start, x.budget, got, int(e))
		}
	}
	k = made(t, always)
	left, e := k.Rest(0, 15, 8)
	if left != 7 || e != api.OK {
		t.Errorf("Rest: %d, error %d", left, int(e))
	}
	if got, e := k.Due(100, left); got != 107 || e != api.OK {
		t.Errorf("resumed: %d, error %d", got, int(e))
	}
}

// P10.1
func TestCheckAndNew(t *testing.T) {
	for _, c := range valid() {
		if e := calendar.Check(c); e != api.OK {
			t.Errorf("%v: error %d", c, int(e))
		}
		if got := made(t, c).Plain(); got.Offset != c.Offset || !slices.Equal(got.Week, c.Week) || !slices.Equal(got.Closed, c.Closed) {
			t.Errorf("%v: Plain %v", c, got)
		}
	}
	for _, x := range invalid() {
		if e := calendar.Check(x.c); e != x.want {
			t.Errorf("%v: error %d, want %d", x.c, int(e), int(x.want))
		}
		if k, e := calendar.New(x.c); k != nil || e != x.want {
			t.Errorf("New(%v): %v, error %d, want %d", x.c, k, int(e), int(x.want))
		}
	}
}

// P10.1: neither what New was given nor what Plain returned changes the clock.
func TestClocksAreApart(t *testing.T) {
	week, closed := row(10, 20, 30, 40), row(15, 16, 100, 200)
	c := api.Calendar{Offset: 1, Week: week[:1], Closed: closed[:1]}
	k := made(t, c)
	if !slices.Equal(week, row(10, 20, 30, 40)) || !slices.Equal(closed, row(15, 16, 100, 200)) {
		t.Errorf("the arguments are %v, %v", week, closed)
	}
	week[0], closed[0] = api.Span{From: 0, To: 500}, api.Span{From: 0, To: 400}
	p := k.Plain()
	p.Week[0], p.Closed[0] = api.Span{From: 0, To: 600}, api.Span{From: 0, To: 300}
	_, _ = append(p.Week[:0], week...), append(p.Closed[:0], closed...)
	p = k.Plain()
	if p.Offset != 1 || !slices.Equal(p.Week, row(10, 20)) || !slices.Equal(p.Closed, row(15, 16)) {
		t.Errorf("the clock has %v", p)
	}
	if n, e := k.Elapsed(0, 100); n != 9 || e != api.OK || k.Open(15) || !k.Open(11) || k.Open(10) {
		t.Errorf("%d have elapsed, error %d", n, int(e))
	}
}

// P10.1
func TestOpen(t *testing.T) {
	for _, c := range valid() {
		k := made(t, c)
		for _, at := range places(c) {
			if got, want := k.Open(at), at < api.Horizon && open(c, at); got != want {
				t.Errorf("%v: Open(%d) is %t", c, at, got)
			}
		}
		for _, at := range append([]int64{api.Horizon}, outside...) {
			if k.Open(at) {
				t.Errorf("%v: Open(%d)", c, at)
			}
		}
	}
	k := made(t, api.Calendar{Offset: 5, Week: row(10, 20), Closed: row(17, 18)})
	for at, want := range map[int64]bool{14: false, 15: true, 16: true, 17: false, 18: true, 24: true, 25: false, 10: false, api.Week + 17: true, api.Week + 15: true, api.Week + 14: false} {
		if got := k.Open(at); got != want {
			t.Errorf("Open(%d) is %t", at, got)
		}
	}
	k = made(t, api.Calendar{Offset: api.Week - 3, Week: row(0, 5)})
	for at, want := range map[int64]bool{0: true, 1: true, 2: false, api.Week - 4: false, api.Week - 3: true, api.Week: true, api.Week + 1: true, api.Week + 2: false} {
		if got := k.Open(at); got != want {
			t.Errorf("before the first week: Open(%d) is %t", at, got)
		}
	}
	k = made(t, api.Calendar{Offset: 3, Week: row(api.Week-3, api.Week)})
	for at, want := range map[int64]bool{0: true, 2: true, 3: false, api.Week - 1: false, api.Week: true, api.Week + 2: true, api.Week + 3: false} {
		if got := k.Open(at); got != want {
			t.Errorf("the week before the first: Open(%d) is %t", at, got)
		}
	}
}

// P10.2
func TestElapsed(t *testing.T) {
	for _, c := range valid() {
		k := made(t, c)
		for _, from := range places(c) {
			for _, to := range places(c) {
				n, e := k.Elapsed(from, to)
				if to < from && (n != 0 || e != api.ErrArg) || from <= to && (n != elapsed(c, from, to) || e != api.OK) {
					t.Fatalf("%v: Elapsed(%d, %d): %d, error %d, want %d", c, from, to, n, int(e), elapsed(c, from, to))
				}
			}
		}
	}
	k := made(t, always)
	for _, no := range outside {
		for _, at := range append([]int64{0, 5, api.Horizon}, outside...) {
			if n, e := k.Elapsed(no, at); n != 0 || e != api.ErrArg {
				t.Errorf("Elapsed(%d, %d): %d, error %d", no, at, n, int(e))
			}
			if n, e := k.Elapsed(at, no); n != 0 || e != api.ErrArg {
				t.Errorf("Elapsed(%d, %d): %d, error %d", at, no, n, int(e))
			}
		}
	}
	if n, e := k.Elapsed(0, api.Horizon); n != api.Horizon || e != api.OK {
		t.Errorf("all: %d, error %d", n, int(e))
	}
}

// smallest checks that budget open instants have elapsed at due since start, and one less an instant before.
func smallest(t *testing.T, c api.Calendar, start, budget, due int64) {
	t.Helper()
	if due <= start || due > api.Horizon || elapsed(c, start, due) != budget || elapsed(c, start, due-1) != budget-1 {
		t.Fatalf("%v: Due(%d, %d) is %d", c, start, budget, due)
	}
}

// P10.2 and P10.4
func TestDue(t *testing.T) {
	for _, c := range valid() {
		k := made(t, c)
		for _, start := range places(c) {
			all := elapsed(c, start, api.Horizon)
			for _, budget := range []int64{1, 2, 5, 9, 10, 11, 20, 21, 1000, api.Week, all / 2, all - 1, all, all + 1, all + 2, api.Horizon, api.Horizon + 1, math.MaxInt64 - 1, math.MaxInt64} {
				due, e := k.Due(start, budget)
				switch {
				case budget < 0 && (due != 0 || e != api.ErrArg), budget == 0 && (due != start || e != api.OK):
					t.Fatalf("%v: Due(%d, %d): %d, error %d", c, start, budget, due, int(e))
				case budget <= 0:
				case len(c.Week) == 0 && (due != 0 || e != api.ErrClosed), len(c.Week) > 0 && budget > all && (due != 0 || e != api.ErrBig):
					t.Fatalf("%v: Due(%d, %d): %d, error %d, of %d", c, start, budget, due, int(e), all)
				case len(c.Week) == 0 || budget > all:
				case e != api.OK:
					t.Fatalf("%v: Due(%d, %d): error %d", c, start, budget, int(e))
				default:
					smallest(t, c, start, budget, due)
				}
			}
		}
	}
}

// P10.2: by hand.
func TestDueByHand(t *testing.T) {
	c := api.Calendar{Offset: 5, Week: row(10, 20), Closed: row(17, 18, 18, 20, api.Week, api.Week+17)}
	// Open are 15, 16, and 20 to 25; of the next week, from Week + 17 to Week + 25.
	k := made(t, c)
	for _, x := range []struct{ start, budget, want int64 }{
		{0, 1, 16}, {0, 2, 17}, {0, 3, 21}, {0, 7, 25}, {0, 8, api.Week + 18}, {0, 15, api.Week + 25}, {0, 16, 2*api.Week + 16}, {15, 1, 16}, {16, 1, 17}, {17, 1, 21}, {18, 1, 21}, {20, 1, 21}, {24, 1, 25}, {24, 2, api.Week + 18}, {25, 1, api.Week + 18}, {25, 18, 2*api.Week + 25}, {api.Week + 16, 8, api.Week + 25},
		{0, 0, 0}, {17, 0, 17}, {25, 0, 25}, {api.Horizon, 0, api.Horizon},
	} {
		if got, e := k.Due(x.start, x.budget); got != x.want || e != api.OK {
			t.Errorf("Due(%d, %d): %d, error %d, want %d", x.start, x.budget, got, int(e), x.want)
		}
	}
	k = made(t, always)
	for _, x := range []struct{ start, budget int64 }{{0, 0}, {0, 1}, {0, api.Horizon}, {1, api.Horizon - 1}, {api.Horizon - 1, 1}, {api.Horizon, 0}} {
		if got, e := k.Due(x.start, x.budget); got != x.start+x.budget || e != api.OK {
			t.Errorf("always open: Due(%d, %d): %d, error %d", x.start, x.budget, got, int(e))
		}
		if got, e := k.Due(x.start, api.Horizon-x.start+1); got != 0 || e != api.ErrBig {
			t.Errorf("always open: beyond Horizon: Due(%d): %d, error %d", x.start, got, int(e))
		}
	}
}

// P10.2: errors, of several the first.
func TestDueErrors(t *testing.T) {
	shut := api.Calendar{Week: row(10, 20), Closed: row(0, api.Horizon)}
	for _, x := range []struct {
		c             api.Calendar
		start, budget int64
		want          api.Errno
	}{
		{always, 5, -1, api.ErrArg}, {always, 5, math.MinInt64, api.ErrArg}, {never, 5, -1, api.ErrArg}, {shut, 5, -1, api.ErrArg}, {always, api.Horizon, -1, api.ErrArg},
		{never, 5, 1, api.ErrClosed}, {never, 5, math.MaxInt64, api.ErrClosed}, {never, api.Horizon, 1, api.ErrClosed}, {api.Calendar{Closed: row(0, 5)}, 5, 1, api.ErrClosed},
		{shut, 5, 1, api.ErrBig}, {shut, api.Horizon, 1, api.ErrBig}, {always, api.Horizon, 1, api.ErrBig}, {always, 0, math.MaxInt64, api.ErrBig}, {always, api.Horizon, math.MaxInt64, api.ErrBig},
		{never, 5, 0, api.OK}, {shut, 5, 0, api.OK},
	} {
		k := made(t, x.c)
		due, e := k.Due(x.start, x.budget)
		if e != x.want || e == api.OK && due != x.start || e != api.OK && due != 0 {
			t.Errorf("%v: Due(%d, %d): %d, error %d, want %d", x.c, x.start, x.budget, due, int(e), int(x.want))
		}
		for _, no := range outside {
			if due, e := k.Due(no, x.budget); due != 0 || e != api.ErrArg {
				t.Errorf("%v: Due(%d, %d): %d, error %d", x.c, no, x.budget, due, int(e))
			}
		}
	}
}

// P10.2
func TestRest(t *testing.T) {
	for _, c := range valid() {
		k := made(t, c)
		for _, start := range places(c) {
			for _, now := range places(c) {
				for _, budget := range []int64{0, 1, 9, 10, 11, 30, api.Week, api.Horizon, math.MaxInt64} {
					n, e := k.Rest(start, budget, now)
					if now < start && (n != 0 || e != api.ErrArg) || start <= now && (n != max(0, budget-elapsed(c, start, now)) || e != api.OK) {
						t.Fatalf("%v: Rest(%d, %d, %d): %d, error %d", c, start, budget, now, n, int(e))
					}
				}
				for _, budget := range []int64{-1, -2, math.MinInt64} {
					if n, e := k.Rest(start, budget, now); n != 0 || e != api.ErrArg {
						t.Fatalf("%v: Rest(%d, %d, %d): %d, error %d", c, start, budget, now, n, int(e))
					}
				}
			}
		}
		for _, no := range outside {
			for _, budget := range []int64{-1, 0, 10} {
				if n, e := k.Rest(no, budget, 5); n != 0 || e != api.ErrArg {
					t.Errorf("Rest(%d, %d, 5): %d, error %d", no, budget, n, int(e))
				}
				if n, e := k.Rest(5, budget, no); n != 0 || e != api.ErrArg {
					t.Errorf("Rest(5, %d, %d): %d, error %d", budget, no, n, int(e))
				}
			}
		}
	}
	k := made(t, api.Calendar{Week: row(10, 20)})
	for _, x := range []struct{ start, budget, now, want int64 }{{0, 5, 9, 5}, {0, 5, 10, 5}, {0, 5, 11, 4}, {0, 5, 14, 1}, {0, 5, 15, 0}, {0, 5, 16, 0}, {18, 5, 20, 3}, {18, 5, api.Week + 10, 3}, {18, 5, api.Week + 12, 1}, {18, 5, 2 * api.Week, 0}} {
		if n, e := k.Rest(x.start, x.budget, x.now); n != x.want || e != api.OK {
			t.Errorf("Rest(%d, %d, %d): %d, error %d", x.start, x.budget, x.now, n, int(e))
		}
	}
}

// P10.1 and P10.2: a nil clock, and one that was not created by New.
func TestClocksThatAreNotThere(t *testing.T) {
	for _, k := range []*calendar.Clock{nil, {}, new(calendar.Clock)} {
		for _, n := range append([]int64{0, 1, 15, api.Week, api.Horizon}, outside...) {
			for _, m := range append([]int64{0, 1, 15, api.Week, api.Horizon}, outside...) {
				if got, e := k.Elapsed(n, m); got != 0 || e != api.ErrNil {
					t.Errorf("Elapsed(%d, %d): %d, error %d", n, m, got, int(e))
				}
				if got, e := k.Due(n, m); got != 0 || e != api.ErrNil {
					t.Errorf("Due(%d, %d): %d, error %d", n, m, got, int(e))
				}
				if got, e := k.Rest(n, m, n); got != 0 || e != api.ErrNil {
					t.Errorf("Rest(%d, %d, %d): %d, error %d", n, m, n, got, int(e))
				}
			}
			if k.Open(n) {
				t.Errorf("Open(%d)", n)
			}
		}
		if c := k.Plain(); c.Offset != 0 || len(c.Week) != 0 || len(c.Closed) != 0 {
			t.Errorf("Plain %v", c)
		}
	}
}

// What a clock's almanac knows can be asked of the clock (the chapter's section Ways).
func TestTheAlmanacOfAClock(t *testing.T) {
	k := made(t, api.Calendar{Offset: 5, Week: row(10, 20), Closed: row(10, 20)})
	if s, ok := k.Next(5); !k.Closed(10) || k.Closed(20) || s != (api.Span{From: 10, To: 20}) || !ok || !slices.Equal(k.Row(), row(10, 20)) || !slices.Equal(slices.Collect(k.Free(0, 30)), row(0, 10, 20, 30)) {
		t.Error("not the almanac of what is closed")
	}
}

// P10.4: Due does not decrease. P10.5: it is additive, wherever one stops. P10.2: second by second.
func TestAnyClocks(t *testing.T) {
	random := rand.New(rand.NewPCG(10, 5))
	for range 400 {
		c := anyCalendar(random)
		k := made(t, c)
		base := []int64{0, random.Int64N(3 * api.Week), api.Horizon - 3*api.Week}[random.IntN(3)]
		for range 30 {
			start := base + random.Int64N(2*api.Week)
			a, b := random.Int64N(api.Week)>>random.IntN(20), random.Int64N(api.Week)>>random.IntN(20)
			due, e := k.Due(start, a+b)
			if e != api.OK {
				if all := elapsed(c, start, api.Horizon); e == api.ErrBig && a+b <= all || e == api.ErrClosed && len(c.Week) > 0 || e != api.ErrBig && e != api.ErrClosed {
					t.Fatalf("%v: Due(%d, %d): error %d, of %d", c, start, a+b, int(e), all)
				}
				continue
			}
			additive(t, k, start, a, b, due)
			stopped(t, k, start, a+b, due, start+random.Int64N(due-start+1))
			if later, e := k.Due(start+1, a+b); e == api.OK && later < due {
				t.Fatalf("%v: Due(%d, %d) is %d, later it is %d", c, start, a+b, due, later)
			}
			if more, e := k.Due(start, a+b+1); e == api.OK && more <= due {
				t.Fatalf("%v: Due(%d, %d) is %d, of one more it is %d", c, start, a+b, due, more)
			}
		}
	}
}

// anyCalendar returns a calendar with up to ten spans of each kind.
func anyCalendar(random *rand.Rand) api.Calendar {
	c := api.Calendar{Offset: random.Int64N(api.Week)}
	for at, n := int64(0), random.IntN(11); len(c.Week) < n; {
		at += random.Int64N(2) * random.Int64N(api.Week/12)
		to := at + 1 + random.Int64N(api.Week/12)
		if to > api.Week {
			break
		}
		c.Week = append(c.Week, api.Span{From: at, To: to})
		at = to
	}
	at := []int64{0, 0, api.Horizon - 3*api.Week}[random.IntN(3)]
	for n := random.IntN(11); len(c.Closed) < n; {
		at += random.Int64N(2) * random.Int64N(api.Week/2)
		to := min(api.Horizon, at+1+random.Int64N(api.Week/3))
		if to <= at {
			break
		}
		c.Closed = append(c.Closed, api.Span{From: at, To: to})
		at = to
	}
	return c
}

// additive checks that what is due after a, and from there after b, is what is due after both.
func additive(t *testing.T, k *calendar.Clock, start, a, b, due int64) {
	t.Helper()
	first, e := k.Due(start, a)
	if e != api.OK {
		t.Fatalf("%v: Due(%d, %d): error %d", k.Plain(), start, a, int(e))
	}
	if second, e := k.Due(first, b); e != api.OK || b > 0 && second != due {
		t.Fatalf("%v: Due(%d, %d) is %d, in two steps %d, error %d", k.Plain(), start, a+b, due, second, int(e))
	}
}

// stopped checks that with what is left at now, the due stays what it was.
func stopped(t *testing.T, k *calendar.Clock, start, budget, due, now int64) {
	t.Helper()
	left, e := k.Rest(start, budget, now)
	if e != api.OK || left == 0 && now < due || now == due && left != 0 {
		t.Fatalf("%v: Rest(%d, %d, %d): %d, error %d", k.Plain(), start, budget, now, left, int(e))
	}
	if again, e := k.Due(now, left); e != api.OK || again != due {
		t.Fatalf("%v: Due(%d, %d) is %d, stopped at %d with %d it is %d, error %d", k.Plain(), start, budget, due, now, left, again, int(e))
	}
}

// P10.2 and P10.4: instant by instant.
func TestEveryInstant(t *testing.T) {
	for _, c := range []api.Calendar{{Offset: 7, Week: row(10, 20, 20, 30, api.Week-4, api.Week), Closed: row(0, 5, 18, 19, 19, 22, api.Week, api.Week+12)}, {Offset: api.Week - 3, Week: row(0, 5), Closed: row(api.Horizon-2, api.Horizon)}} {
		k := made(t, c)
		for _, from := range []int64{0, 15, api.Horizon - api.Week - 100} {
			n := int64(0)
			for at := from; at < from+api.Week+50; at++ {
				if got, e := k.Elapsed(from, at); got != n || e != api.OK {
					t.Fatalf("%v: Elapsed(%d, %d): %d, error %d, want %d", c, from, at, got, int(e), n)
				}
				if k.Open(at) != open(c, at) {
					t.Fatalf("%v: Open(%d) is %t", c, at, k.Open(at))
				}
				if !open(c, at) {
					continue
				}
				n++
				if due, e := k.Due(from, n); due != at+1 || e != api.OK {
					t.Fatalf("%v: Due(%d, %d): %d, error %d, want %d", c, from, n, due, int(e), at+1)
				}
			}
		}
	}
}

// written returns the encoding of a calendar, written number by number.
func written(c api.Calendar) []byte {
	var w quill.Writer
	w.Int(c.Offset)
	for _, l := range [][]api.Span{c.Week, c.Closed} {
		w.Num(uint64(len(l)))
		for _, s := range l {
			w.Num(uint64(s.From))
			w.Num(uint64(s.To))
		}
	}
	return w.Bytes()
}

// put returns what Put writes.
func put(c api.Calendar) []byte {
	var w quill.Writer
	calendar.Put(&w, c)
	return w.Bytes()
}

// P10.3
func TestPut(t *testing.T) {
	for _, x := range []struct {
		c    api.Calendar
		want []byte
	}{
		{api.Calendar{}, []byte{0, 0, 0}},
		{api.Calendar{Offset: 5, Week: row(10, 20, 300, 301)}, []byte{1, 5, 1, 2, 1, 10, 1, 20, 2, 1, 44, 2, 1, 45, 0}},
		{api.Calendar{Closed: row(0, 1)}, []byte{0, 0, 1, 1, 0, 1, 1}},
		{api.Calendar{Offset: -1}, []byte{128, 0, 0}},
	} {
		if got := put(x.c); !bytes.Equal(got, x.want) {
			t.Errorf("%v: % x", x.c, got)
		}
	}
	for _, c := range valid() {
		week, closed := slices.Clone(c.Week), slices.Clone(c.Closed)
		if got := put(c); !bytes.Equal(got, written(c)) {
			t.Errorf("%v: % x", c, got)
		}
		if !slices.Equal(c.Week, week) || !slices.Equal(c.Closed, closed) {
			t.Errorf("%v, %v are now %v", week, closed, c)
		}
	}
	for _, x := range invalid() {
		if got := put(x.c); !bytes.Equal(got, written(x.c)) {
			t.Errorf("%v: % x", x.c, got)
		}
	}
	var w quill.Writer
	w.Num(7)
	calendar.Put(&w, api.Calendar{Offset: 5})
	calendar.Put(&w, always)
	if got, want := w.Bytes(), slices.Concat([]byte{1, 7, 1, 5, 0, 0}, written(always)); !bytes.Equal(got, want) {
		t.Errorf("several: % x", got)
	}
	calendar.Put(nil, always)
}

// P10.3
func TestRead(t *testing.T) {
	var w quill.Writer
	for _, c := range valid() {
		calendar.Put(&w, c)
	}
	w.Num(77)
	r := quill.Open(w.Bytes())
	for _, c := range valid() {
		got, ok := calendar.Read(r)
		if !ok || r.Bad() || got.Offset != c.Offset || !slices.Equal(got.Week, c.Week) || !slices.Equal(got.Closed, c.Closed) {
			t.Fatalf("%v: %v, %t", c, got, ok)
		}
	}
	if n := r.Num(100); n != 77 || r.End() != api.OK {
		t.Errorf("what follows is %d, error %d", n, int(r.End()))
	}
}

// unread checks that nothing can be read of b.
func unread(t *testing.T, b []byte) {
	t.Helper()
	r := quill.Open(b)
	c, ok := calendar.Read(r)
	if ok || c.Offset != 0 || c.Week != nil || c.Closed != nil || !r.Bad() || r.Left() != 0 || r.End() != api.ErrForm {
		t.Errorf("% x: %v, %t, bad %t", b, c, ok, r.Bad())
	}
}

// P10.3
func TestReadOfNoCalendar(t *testing.T) {
	for _, x := range invalid() {
		unread(t, written(x.c))
		unread(t, append(written(x.c), 0, 0, 0))
	}
	for _, c := range valid() {
		b := written(c)
		for n := range b {
			unread(t, b[:n])
		}
	}
	for _, b := range [][]byte{
		nil, {0}, {0, 0}, {1, 0, 0, 0}, {9, 0, 0, 0}, {0, 1, 33, 0}, {0, 0, 1, 33}, {0, 8, 255, 255, 255, 255, 255, 255, 255, 255, 0}, {0, 128, 0}, {128, 0, 0}, {0, 1, 1, 128, 1, 5, 0}, {0, 1, 1, 1, 0, 1, 5, 0}, {0, 1, 1, 1, 5, 1, 5, 0}, {0, 1, 1, 1, 6, 1, 5, 0},
		{0, 1, 1, 8, 255, 255, 255, 255, 255, 255, 255, 251, 1, 5, 0}, {0, 0, 1, 1, 0, 7, 4, 0, 0, 0, 0, 0, 1},
	} {
		unread(t, b)
	}
	if c, ok := calendar.Read(quill.Open([]byte{0, 0, 1, 1, 0, 7, 4, 0, 0, 0, 0, 0, 0})); !ok || !slices.Equal(c.Closed, row(0, api.Horizon)) {
		t.Errorf("closed up to Horizon: %v, %t", c, ok)
	}
	r := quill.Open(written(always))
	r.Fail()
	if c, ok := calendar.Read(r); ok || c.Week != nil || !r.Bad() {
		t.Errorf("bad: %v, %t", c, ok)
	}
	for _, r := range []*quill.Reader{nil, {}} {
		if c, ok := calendar.Read(r); ok || c.Offset != 0 || c.Week != nil || c.Closed != nil {
			t.Errorf("no Reader: %v, %t", c, ok)
		}
	}
}

// P10.3
func TestSame(t *testing.T) {
	different := []api.Calendar{
		{}, {Offset: 1}, {Offset: -1}, {Week: row(10, 20)}, {Week: row(10, 21)}, {Week: row(11, 20)}, {Week: row(10, 20, 30, 40)}, {Closed: row(10, 20)}, {Offset: 1, Week: row(10, 20)}, {Week: row(10, 20), Closed: row(10, 20)},
		{Offset: 1, Week: row(10, 20), Closed: row(10, 20)}, {Offset: 1, Week: row(10, 20), Closed: row(10, 20, 20, 30)}, {Week: row(20, 10)}, {Week: make([]api.Span, 1)}, {Closed: make([]api.Span, 1)}, {Week: make([]api.Span, 40)},
	}
	for i, a := range different {
		for j, b := range different {
			b.Week, b.Closed = slices.Clone(b.Week), slices.Clone(b.Closed)
			if got := calendar.Same(a, b); got != (i == j) {
				t.Errorf("%v, %v: %t", a, b, got)
			}
		}
	}
	if !calendar.Same(api.Calendar{Week: []api.Span{}}, api.Calendar{Closed: []api.Span{}}) {
		t.Error("nil and empty lists")
	}
}

// P10.1 and P10.2: a clock that several ask at the same time for the first time.
func TestRequestsAtTheSameTime(t *testing.T) {
	for range 200 {
		k := made(t, api.Calendar{Offset: 5, Week: row(10, 20), Closed: row(17, 18)})
		var workers sync.WaitGroup
		for range 8 {
			workers.Go(func() {
				due, e := k.Due(0, 12)
				if n, f := k.Elapsed(0, 30); due != api.Week+18 || e != api.OK || n != 9 || f != api.OK {
					t.Errorf("due %d, error %d; elapsed %d, error %d", due, int(e), n, int(f))
				}
			})
		}
		workers.Wait()
	}
}

// P10.3: what is read as a calendar is exactly its encoding, and the calendar is valid.
func FuzzRead(f *testing.F) {
	for _, c := range valid() {
		f.Add(written(c))
	}
	for _, x := range invalid() {
		f.Add(written(x.c))
	}
	f.Fuzz(func(t *testing.T, b []byte) {
		r := quill.Open(b)
		c, ok := calendar.Read(r)
		if !ok {
			if !r.Bad() || !calendar.Same(c, api.Calendar{}) {
				t.Fatalf("%v, bad %t", c, r.Bad())
			}
			return
		}
		if e := calendar.Check(c); e != api.OK || !bytes.Equal(put(c), b[:len(b)-r.Left()]) {
			t.Fatalf("%v: error %d", c, int(e))
		}
	})
}
