package week_test

import (
	"math"
	"math/rand/v2"
	"slices"
	"sync"
	"testing"

	"curfew/api"
	"curfew/week"
)

// end is the second of a week that Last is.
const end = week.Last % api.Week

// row returns the spans whose begins and ends are given.
func row(l ...int64) []api.Span {
	var r []api.Span
	for i := 0; i+1 < len(l); i += 2 {
		r = append(r, api.Span{From: l[i], To: l[i+1]})
	}
	return r
}

// comb returns n spans of size seconds, one every step seconds.
func comb(n int, from, size, step int64) []api.Span {
	var r []api.Span
	for i := range int64(n) {
		r = append(r, api.Span{From: from + i*step, To: from + i*step + size})
	}
	return r
}

// rows returns rows with and without spans, also at the ends of a week, and such that span the second that Last is or lie right beside it.
func rows() [][]api.Span {
	return [][]api.Span{
		nil, {}, row(10, 20), row(0, 1), row(0, api.Week), row(api.Week-1, api.Week), row(0, 5, 5, 10, 100, 300), row(0, 3, api.Week-2, api.Week),
		row(end, end+1), row(end-1, end), row(end+1, end+2), row(0, end), row(0, end+1), row(end, api.Week), row(end+1, api.Week), row(3, 5, end-2, end, end, end+2),
		comb(api.MaxSpans, 0, 1, 1), comb(api.MaxSpans, 7, 9000, 18000), row(0, 1, 1, api.Week),
	}
}

// plan returns a plan that must exist.
func plan(t testing.TB, l []api.Span) *week.Plan {
	t.Helper()
	p, e := week.New(l)
	if p == nil || e != api.OK {
		t.Fatalf("New(%v): error %d", l, int(e))
	}
	return p
}

// has reports whether one of the spans contains the second t of a week.
func has(l []api.Span, t int64) bool {
	for _, s := range l {
		if s.From <= t && t < s.To {
			return true
		}
	}
	return false
}

// until counts open seconds before t span by span, where t is from 0 to Last.
func until(l []api.Span, t int64) int64 {
	n := int64(0)
	for _, s := range l {
		n += (t / api.Week) * (s.To - s.From)
		if rest := t % api.Week; rest >= s.To {
			n += s.To - s.From
		} else if rest > s.From {
			n += rest - s.From
		}
	}
	return n
}

// P8.1 and P8.2: the chapter's example.
func TestExample(t *testing.T) {
	p := plan(t, row(10, 20))
	if n := p.Until(api.Week + 15); n != 15 {
		t.Errorf("Until %d", n)
	}
	if n, e := p.Nth(15); n != api.Week+15 || e != api.OK {
		t.Errorf("Nth %d, error %d", n, int(e))
	}
}

// P8.1
func TestNewOfNoRow(t *testing.T) {
	for _, x := range []struct {
		l    []api.Span
		want api.Errno
	}{
		{row(5, 5), api.ErrArg}, {row(-1, 5), api.ErrArg}, {row(6, 5), api.ErrArg}, {row(0, 10, 9, 12), api.ErrArg}, {row(20, 30, 0, 10), api.ErrArg},
		{row(0, api.Horizon+1), api.ErrArg}, {row(math.MinInt64, math.MaxInt64), api.ErrArg},
		{comb(api.MaxSpans+1, 0, 1, 2), api.ErrLong}, {make([]api.Span, api.MaxSpans+1), api.ErrLong}, {comb(api.MaxSpans+1, 0, api.Week, api.Week), api.ErrLong},
		{row(0, api.Week+1), api.ErrArg}, {row(api.Week, api.Week+1), api.ErrArg}, {row(0, api.Horizon), api.ErrArg}, {row(10, 20, api.Week-1, api.Week+1), api.ErrArg},
		{row(10, 20, 20, 30, api.Week+10, api.Week+20), api.ErrArg}, {comb(api.MaxSpans, 0, api.Week/31, api.Week/31), api.ErrArg},
	} {
		if p, e := week.New(x.l); p != nil || e != x.want {
			t.Errorf("%v: %v, error %d, want %d", x.l, p, int(e), int(x.want))
		}
	}
}

// P8.1
func TestRowAndTotal(t *testing.T) {
	for _, l := range rows() {
		p := plan(t, l)
		if got := p.Row(); !slices.Equal(got, l) {
			t.Errorf("%v: Row %v", l, got)
		}
		n := int64(0)
		for _, s := range l {
			n += s.To - s.From
		}
		if got := p.Total(); got != n {
			t.Errorf("%v: Total %d, want %d", l, got, n)
		}
	}
}

// P8.1: neither what New was given nor what Row returned changes the plan, also if nothing was requested in between.
func TestPlansAreApart(t *testing.T) {
	l := row(10, 20, 30, 40)
	p := plan(t, l[:1])
	if !slices.Equal(l, row(10, 20, 30, 40)) {
		t.Errorf("the argument is %v", l)
	}
	l[0] = api.Span{From: 100, To: 500}
	r := p.Row()
	r[0] = api.Span{From: 100, To: 600}
	_ = append(r[:0], l...)
	if got := p.Row(); !slices.Equal(got, row(10, 20)) || p.Total() != 10 || !p.Open(10) || p.Open(100) || p.Until(15) != 5 {
		t.Errorf("the plan has %v, %d seconds", got, p.Total())
	}
	r = p.Row()
	other := plan(t, row(50, 60))
	if other.Open(10) || !p.Open(10) || p.Total()+other.Until(55) != 15 || !slices.Equal(r, row(10, 20)) {
		t.Error("two plans")
	}
}

// P8.1
func TestOpen(t *testing.T) {
	for _, l := range rows() {
		p := plan(t, l)
		for _, weeks := range []int64{0, 1, 2, 1000, week.Last/api.Week - 1, week.Last / api.Week} {
			for _, second := range edges(l) {
				at := weeks*api.Week + second
				if got, want := p.Open(at), has(l, second) && at <= week.Last; got != want {
					t.Errorf("%v: Open(%d), second %d of week %d: %t", l, at, second, weeks, got)
				}
			}
		}
		if got := p.Open(week.Last); got != has(l, end) {
			t.Errorf("%v: Open(Last) is %t", l, got)
		}
		for _, at := range []int64{-1, -2, -api.Week, 10 - api.Week, math.MinInt64, math.MinInt64 + 1, week.Last + 1, week.Last + 2, week.Last + api.Week, math.MaxInt64, math.MaxInt64 / api.Week * api.Week} {
			if p.Open(at) {
				t.Errorf("%v: Open(%d)", l, at)
			}
		}
	}
}

// edges returns the seconds of a week around the begins and the ends of spans, and around that of Last.
func edges(l []api.Span) []int64 {
	near := []int64{0, 1, api.Week / 2, api.Week - 1, end - 1, end, end + 1}
	for _, s := range l {
		near = append(near, s.From-1, s.From, s.From+1, s.To-1, s.To, s.To+1)
	}
	near = slices.DeleteFunc(near, func(t int64) bool { return t < 0 || t >= api.Week })
	slices.Sort(near)
	return slices.Compact(near)
}

// P8.2
func TestUntil(t *testing.T) {
	for _, l := range rows() {
		p := plan(t, l)
		for _, weeks := range []int64{0, 1, 2, 1000, week.Last/api.Week - 1, week.Last / api.Week} {
			for _, second := range edges(l) {
				at := weeks*api.Week + second
				if got, want := p.Until(at), until(l, min(at, week.Last)); got != want {
					t.Errorf("%v: Until(%d), second %d of week %d: %d, want %d", l, at, second, weeks, got, want)
				}
			}
		}
		for _, at := range []int64{0, -1, -2, -api.Week, 15 - api.Week, math.MinInt64, math.MinInt64 + 1} {
			if n := p.Until(at); n != 0 {
				t.Errorf("%v: Until(%d) is %d", l, at, n)
			}
		}
		for _, at := range []int64{week.Last, week.Last + 1, week.Last + 2, week.Last + api.Week, math.MaxInt64} {
			if got, want := p.Until(at), until(l, week.Last); got != want {
				t.Errorf("%v: Until(%d) is %d, want %d", l, at, got, want)
			}
		}
	}
}

// P8.2
func TestBetween(t *testing.T) {
	places := []int64{math.MinInt64, -api.Week, -1, 0, 1, 10, 15, 19, 20, 21, 300, api.Week - 1, api.Week, api.Week + 1, api.Week + 15, 7*api.Week + 12, api.Horizon, week.Last - 1, week.Last, week.Last + 1, week.Last + api.Week, math.MaxInt64}
	for _, l := range rows() {
		p := plan(t, l)
		for _, from := range places {
			for _, to := range places {
				want := max(0, until(l, min(max(0, to), week.Last))-until(l, min(max(0, from), week.Last)))
				if got := p.Between(from, to); got != want {
					t.Errorf("%v: Between(%d, %d): %d, want %d", l, from, to, got, want)
				}
			}
		}
	}
	p := plan(t, row(10, 20))
	for _, x := range []struct{ from, to, want int64 }{{0, 15, 5}, {15, api.Week + 11, 6}, {12, 12, 0}, {13, 12, 0}, {20, 10, 0}, {-5, 12, 2}, {12, -5, 0}, {20, api.Week + 10, 0}} {
		if got := p.Between(x.from, x.to); got != x.want {
			t.Errorf("Between(%d, %d): %d, want %d", x.from, x.to, got, x.want)
		}
	}
}

// P8.2 and P8.3: around each begin and end of a span, in the first weeks and in the last ones.
func TestNth(t *testing.T) {
	for _, l := range rows() {
		p := plan(t, l)
		for _, weeks := range []int64{0, 1, 2, 1000, week.Last/api.Week - 1, week.Last / api.Week} {
			for _, second := range edges(l) {
				at := weeks*api.Week + second
				if !has(l, second) || at > week.Last {
					continue
				}
				n := until(l, at)
				if got, e := p.Nth(n); got != at || e != api.OK || p.Until(got) != n {
					t.Errorf("%v: Nth(%d): %d, error %d, want %d", l, n, got, int(e), at)
				}
			}
		}
	}
}

// P8.2: the last open second there is, which may be Last, and those behind it.
func TestNthAtTheEnd(t *testing.T) {
	for _, l := range rows() {
		p := plan(t, l)
		if p.Total() == 0 {
			continue
		}
		n := until(l, week.Last)
		if has(l, end) {
			if got, e := p.Nth(n); got != week.Last || e != api.OK {
				t.Errorf("%v: Last: %d, error %d", l, got, int(e))
			}
			n++
		}
		if got, e := p.Nth(n - 1); got > week.Last || e != api.OK || !p.Open(got) || got <= week.Last-api.Week {
			t.Errorf("%v: the last: %d, error %d", l, got, int(e))
		}
		for _, beyond := range []int64{n, n + 1, n + p.Total(), n + api.Week, 2*n + 1, math.MaxInt64 / api.Week, math.MaxInt64/api.Week + 1, math.MaxInt64 - 1, math.MaxInt64} {
			if beyond < n {
				continue
			}
			if got, e := p.Nth(beyond); got != 0 || e != api.ErrBig {
				t.Errorf("%v: Nth(%d): %d, error %d", l, beyond, got, int(e))
			}
		}
	}
}

// P8.2: weeks whose seconds are beyond int64. Taken modulo 2^64, the first of them begin at 0, as 2^57 times Week is a multiple of 2^64.
func TestNthBeyondAllNumbers(t *testing.T) {
	for size := int64(1); size <= 3; size++ {
		p := plan(t, row(0, size))
		for times := int64(1); times*size < 64; times++ {
			for more := range int64(10) {
				n := times*size<<57 + more
				if got, e := p.Nth(n); got != 0 || e != api.ErrBig {
					t.Errorf("%d seconds: Nth(%d): %d, error %d", size, n, got, int(e))
				}
			}
		}
	}
}

// P8.2: errors, of several the first.
func TestNthErrors(t *testing.T) {
	for _, n := range []int64{-1, -2, math.MinInt64} {
		for _, l := range rows() {
			if got, e := plan(t, l).Nth(n); got != 0 || e != api.ErrArg {
				t.Errorf("%v: Nth(%d): %d, error %d", l, n, got, int(e))
			}
		}
	}
	for _, n := range []int64{0, 1, week.Last, math.MaxInt64} {
		for _, l := range [][]api.Span{nil, {}} {
			if got, e := plan(t, l).Nth(n); got != 0 || e != api.ErrClosed {
				t.Errorf("never open: Nth(%d): %d, error %d", n, got, int(e))
			}
		}
	}
}

// P8.1 and P8.2: a nil plan, and one that was not created by New.
func TestPlansThatAreNotThere(t *testing.T) {
	for _, p := range []*week.Plan{nil, {}, new(week.Plan)} {
		for _, n := range []int64{0, 1, 15, -1, api.Week, week.Last, week.Last + 1, math.MaxInt64, math.MinInt64} {
			if got, e := p.Nth(n); got != 0 || e != api.ErrNil {
				t.Errorf("Nth(%d): %d, error %d", n, got, int(e))
			}
			if p.Open(n) || p.Until(n) != 0 || p.Between(0, n) != 0 || p.Between(n, week.Last) != 0 {
				t.Errorf("%d: %t, %d", n, p.Open(n), p.Until(n))
			}
		}
		if p.Total() != 0 || p.Row() != nil {
			t.Errorf("Total %d, Row %v", p.Total(), p.Row())
		}
	}
}

// walk goes through all seconds from from up to to, and checks that Until counts the open ones and Nth finds them.
func walk(t *testing.T, l []api.Span, from, to int64) {
	t.Helper()
	p := plan(t, l)
	n := p.Until(from)
	for at := from; at < to; at++ {
		if got := p.Until(at); got != n || p.Between(from, at) != n-p.Until(from) {
			t.Fatalf("%v: Until(%d) is %d, want %d", l, at, got, n)
		}
		open := has(l, at%api.Week)
		if p.Open(at) != open {
			t.Fatalf("%v: Open(%d) is %t", l, at, !open)
		}
		if !open {
			continue
		}
		if got, e := p.Nth(n); got != at || e != api.OK {
			t.Fatalf("%v: Nth(%d) is %d, error %d, want %d", l, n, got, int(e), at)
		}
		n++
	}
}

// P8.3: second by second, in the first weeks and in the last ones.
func TestEverySecond(t *testing.T) {
	for _, l := range [][]api.Span{nil, row(10, 20), row(0, api.Week), row(end-1, end+1), comb(api.MaxSpans, 7, 9000, 18000)} {
		walk(t, l, 0, api.Week+100)
		walk(t, l, week.Last-api.Week-100, week.Last)
	}
}

// P8.3: any plans, some of them with spans that touch each other, at any seconds.
func TestAnyPlans(t *testing.T) {
	random := rand.New(rand.NewPCG(8, 3))
	for range 500 {
		var l []api.Span
		from := int64(0)
		for n := random.IntN(api.MaxSpans + 1); len(l) < n; {
			from += random.Int64N(2) * random.Int64N(2*api.Week/api.MaxSpans)
			to := from + 1 + random.Int64N(api.Week/api.MaxSpans)
			if to > api.Week {
				break
			}
			l = append(l, api.Span{From: from, To: to})
			from = to
		}
		p := plan(t, l)
		for range 100 {
			a, b := random.Int64N(week.Last+1)>>random.IntN(52), random.Int64N(week.Last+1)>>random.IntN(52)
			if p.Until(a) != until(l, a) || p.Open(a) != has(l, a%api.Week) {
				t.Fatalf("%v: Until(%d) is %d, want %d", l, a, p.Until(a), until(l, a))
			}
			if a <= b && (p.Until(a) > p.Until(b) || p.Between(a, b) != until(l, b)-until(l, a)) || a > b && p.Between(a, b) != 0 {
				t.Fatalf("%v: Between(%d, %d) is %d", l, a, b, p.Between(a, b))
			}
			n := until(l, a)
			at, e := p.Nth(n)
			if e == api.OK && (p.Until(at) != n || !p.Open(at) || at < a) || e != api.OK && len(l) > 0 && has(l, a%api.Week) {
				t.Fatalf("%v: Nth(%d) is %d, error %d", l, n, at, int(e))
			}
		}
	}
}

// P8.1 and P8.2: plans that are asked at the same time for the first time.
func TestRequestsAtTheSameTime(t *testing.T) {
	for range 300 {
		p := plan(t, row(10, 20, 30, 40))
		var workers sync.WaitGroup
		for range 8 {
			workers.Go(func() {
				n, e := p.Nth(15)
				if p.Until(35) != 15 || n != 35 || e != api.OK || p.Total() != 20 {
					t.Error("not the same for all")
				}
			})
		}
		workers.Wait()
	}
}
