package almanac_test

import (
	"math"
	"math/rand/v2"
	"slices"
	"sync"
	"testing"

	"curfew/almanac"
	"curfew/api"
)

// row returns the spans whose begins and ends are given.
func row(l ...int64) []api.Span {
	var r []api.Span
	for i := 0; i+1 < len(l); i += 2 {
		r = append(r, api.Span{From: l[i], To: l[i+1]})
	}
	return r
}

// comb returns n spans of size seconds, one every step seconds.
func comb(n int, from, size, step int64) []api.Span {
	var r []api.Span
	for i := range int64(n) {
		r = append(r, api.Span{From: from + i*step, To: from + i*step + size})
	}
	return r
}

// rows returns rows with and without spans, also such that touch each other, and at the ends of time.
func rows() [][]api.Span {
	return [][]api.Span{
		nil, {}, row(10, 20), row(0, 1), row(0, 10), row(5, 10, 10, 15), row(0, 5, 5, 10, 12, 13), row(0, api.Horizon), row(api.Horizon-1, api.Horizon), row(api.Horizon-5, api.Horizon-3),
		row(0, 3, api.Horizon-2, api.Horizon), row(10, api.Horizon), row(0, api.Horizon-10), row(0, 10, 10, api.Horizon), comb(api.MaxSpans, 0, 1, 1), comb(api.MaxSpans, 7, 2, 3), comb(api.MaxSpans, 0, 1<<44, 1<<45),
	}
}

// places returns the seconds around the begins and the ends of spans, and around those of time and of all numbers.
func places(l []api.Span) []int64 {
	p := []int64{math.MinInt64, math.MinInt64 + 1, -api.Horizon, -6, -2, -1, 0, 1, 2, api.Horizon / 2, api.Horizon - 1, api.Horizon, api.Horizon + 1, 2 * api.Horizon, math.MaxInt64 - 1, math.MaxInt64}
	for i, s := range l {
		if i < 3 || i > len(l)-3 {
			p = append(p, s.From-1, s.From, s.From+1, s.To-1, s.To, s.To+1)
		}
	}
	slices.Sort(p)
	return slices.Compact(p)
}

// made returns an almanac that must exist.
func made(t testing.TB, l []api.Span) *almanac.Almanac {
	t.Helper()
	a, e := almanac.New(l)
	if a == nil || e != api.OK {
		t.Fatalf("New(%v): error %d", l, int(e))
	}
	return a
}

// length is what Lost asks to add up seconds.
func length(from, to int64) int64 { return to - from }

// parts returns what each span of the row has of the range, compared one by one.
func parts(l []api.Span, from, to int64) []api.Span {
	var p []api.Span
	for _, s := range l {
		if s.From < from {
			s.From = from
		}
		if s.To > to {
			s.To = to
		}
		if s.From < s.To {
			p = append(p, s)
		}
	}
	return p
}

// gaps returns what spans of the row leave of the range, where each of them takes its part out of what is left.
func gaps(l []api.Span, from, to int64) []api.Span {
	left := parts(row(0, api.Horizon), from, to)
	for _, s := range l {
		var next []api.Span
		for _, g := range left {
			next = append(append(next, parts([]api.Span{g}, math.MinInt64, s.From)...), parts([]api.Span{g}, s.To, math.MaxInt64)...)
		}
		left = next
	}
	return left
}

// P9.2: the chapter's example.
func TestExample(t *testing.T) {
	got := slices.Collect(made(t, row(10, 20)).Free(5, 30))
	if !slices.Equal(got, row(5, 10, 20, 30)) {
		t.Errorf("Free %v", got)
	}
}

// P9.1
func TestNewOfNoRow(t *testing.T) {
	for _, x := range []struct {
		l    []api.Span
		want api.Errno
	}{
		{row(5, 5), api.ErrArg}, {row(-1, 5), api.ErrArg}, {row(6, 5), api.ErrArg}, {row(0, 10, 9, 12), api.ErrArg}, {row(20, 30, 0, 10), api.ErrArg}, {row(0, 10, 0, 10), api.ErrArg},
		{row(0, api.Horizon+1), api.ErrArg}, {row(api.Horizon, api.Horizon+1), api.ErrArg}, {row(math.MinInt64, math.MaxInt64), api.ErrArg}, {make([]api.Span, api.MaxSpans), api.ErrArg},
		{comb(api.MaxSpans+1, 0, 1, 2), api.ErrLong}, {make([]api.Span, api.MaxSpans+1), api.ErrLong}, {comb(api.MaxSpans+1, 0, api.Horizon, api.Horizon), api.ErrLong},
	} {
		if a, e := almanac.New(x.l); a != nil || e != x.want {
			t.Errorf("%v: %v, error %d, want %d", x.l, a, int(e), int(x.want))
		}
	}
}

// P9.1
func TestRow(t *testing.T) {
	for _, l := range rows() {
		if got := made(t, l).Row(); !slices.Equal(got, l) {
			t.Errorf("%v: Row %v", l, got)
		}
	}
}

// P9.1: neither what New was given nor what Row returned changes the almanac.
func TestAlmanacsAreApart(t *testing.T) {
	l := row(10, 20, 30, 40)
	a := made(t, l[:1])
	if !slices.Equal(l, row(10, 20, 30, 40)) {
		t.Errorf("the argument is %v", l)
	}
	free := a.Free(0, 100)
	l[0] = api.Span{From: 50, To: 60}
	r := a.Row()
	r[0] = api.Span{From: 70, To: 80}
	_ = append(r[:0], l...)
	other := made(t, row(1, 2))
	if got := a.Row(); !slices.Equal(got, row(10, 20)) || !a.Closed(10) || a.Closed(50) || a.Closed(70) || a.Closed(1) || !other.Closed(1) {
		t.Errorf("the almanac has %v", got)
	}
	if got := slices.Collect(free); !slices.Equal(got, row(0, 10, 20, 100)) {
		t.Errorf("Free %v", got)
	}
}

// P9.1
func TestClosedAndNext(t *testing.T) {
	for _, l := range rows() {
		a := made(t, l)
		for _, at := range places(l) {
			closed, next, any := false, api.Span{}, false
			for _, s := range slices.Backward(l) {
				closed = closed || s.From <= at && at < s.To
				if s.To > at {
					next, any = s, true
				}
			}
			if got := a.Closed(at); got != closed {
				t.Errorf("%v: Closed(%d) is %t", l, at, got)
			}
			if got, ok := a.Next(at); got != next || ok != any {
				t.Errorf("%v: Next(%d): %v, %t, want %v, %t", l, at, got, ok, next, any)
			}
		}
	}
	a := made(t, row(10, 20, 20, 25, 30, 40))
	for _, x := range []struct {
		at     int64
		closed bool
		next   api.Span
	}{
		{-1, false, api.Span{From: 10, To: 20}}, {9, false, api.Span{From: 10, To: 20}}, {10, true, api.Span{From: 10, To: 20}}, {19, true, api.Span{From: 10, To: 20}}, {20, true, api.Span{From: 20, To: 25}},
		{24, true, api.Span{From: 20, To: 25}}, {25, false, api.Span{From: 30, To: 40}}, {29, false, api.Span{From: 30, To: 40}}, {39, true, api.Span{From: 30, To: 40}}, {40, false, api.Span{}},
	} {
		if got, ok := a.Next(x.at); got != x.next || ok != (x.at < 40) || a.Closed(x.at) != x.closed {
			t.Errorf("%d: %v, %t", x.at, got, ok)
		}
	}
}

// P9.2: which ranges open is asked for, in which order, and that its results are added, whatever they are.
func TestLost(t *testing.T) {
	for _, l := range rows() {
		a := made(t, l)
		for _, from := range places(l) {
			for _, to := range places(l) {
				var asked []api.Span
				sum, by := int64(0), int64(0)
				got := a.Lost(from, to, func(from, to int64) int64 {
					asked = append(asked, api.Span{From: from, To: to})
					by = -3*by + 7
					sum += by
					return by
				})
				if want := parts(l, from, to); !slices.Equal(asked, want) || got != sum {
					t.Fatalf("%v: Lost(%d, %d) asked for %v, want %v; it is %d, want %d", l, from, to, asked, want, got, sum)
				}
				if n := a.Lost(from, to, nil); n != 0 {
					t.Errorf("%v: Lost(%d, %d) of no function: %d", l, from, to, n)
				}
			}
		}
	}
}

// P9.2: spans that touch each other are closed one by one; what a range has none of is not asked for.
func TestLostSpanBySpan(t *testing.T) {
	a := made(t, row(10, 20, 20, 25, 30, 40))
	for _, x := range []struct {
		from, to int64
		want     []api.Span
	}{
		{0, 100, row(10, 20, 20, 25, 30, 40)}, {15, 35, row(15, 20, 20, 25, 30, 35)}, {20, 30, row(20, 25)}, {19, 31, row(19, 20, 20, 25, 30, 31)},
		{25, 30, nil}, {0, 10, nil}, {40, 50, nil}, {15, 15, nil}, {18, 12, nil}, {12, 13, row(12, 13)}, {math.MinInt64, math.MaxInt64, row(10, 20, 20, 25, 30, 40)}, {math.MaxInt64, math.MinInt64, nil},
	} {
		var asked []api.Span
		n := a.Lost(x.from, x.to, func(from, to int64) int64 {
			asked = append(asked, api.Span{From: from, To: to})
			return to - from
		})
		want := int64(0)
		for _, s := range x.want {
			want += s.To - s.From
		}
		if !slices.Equal(asked, x.want) || n != want {
			t.Errorf("Lost(%d, %d): %d, of %v, want %v", x.from, x.to, n, asked, x.want)
		}
	}
}

// P9.2: no call panics, not even with a function that does.
func TestLostOfAFunctionThatPanics(t *testing.T) {
	a := made(t, row(10, 20, 30, 40))
	if n := a.Lost(0, 100, func(from, to int64) int64 { panic("no result") }); n != 0 {
		t.Errorf("always: %d", n)
	}
	if n := a.Lost(0, 100, func(from, to int64) int64 { return 100 / (from - 30) }); n != 0 {
		t.Errorf("for one of the spans: %d", n)
	}
	if n := a.Lost(0, 25, func(from, to int64) int64 { return 100 / (from - 30) }); n != -5 {
		t.Errorf("for none that is asked for: %d", n)
	}
}

// P9.2
func TestFree(t *testing.T) {
	for _, l := range rows() {
		a := made(t, l)
		for _, from := range places(l) {
			for _, to := range places(l) {
				if got, want := slices.Collect(a.Free(from, to)), gaps(l, from, to); !slices.Equal(got, want) {
					t.Fatalf("%v: Free(%d, %d): %v, want %v", l, from, to, got, want)
				}
			}
		}
	}
	a := made(t, row(10, 20, 20, 25, 30, 40))
	for _, x := range []struct {
		from, to int64
		want     []api.Span
	}{
		{0, 100, row(0, 10, 25, 30, 40, 100)}, {-5, 12, row(0, 10)}, {10, 20, nil}, {10, 25, nil}, {20, 26, row(25, 26)}, {26, 28, row(26, 28)}, {39, 41, row(40, 41)}, {5, 5, nil}, {8, 5, nil}, {0, 0, nil}, {-9, -5, nil}, {-9, 1, row(0, 1)},
		{50, math.MaxInt64, row(50, api.Horizon)}, {math.MinInt64, math.MaxInt64, row(0, 10, 25, 30, 40, api.Horizon)}, {api.Horizon, math.MaxInt64, nil}, {api.Horizon - 1, api.Horizon + 5, row(api.Horizon-1, api.Horizon)}, {api.Horizon + 1, api.Horizon + 5, nil},
	} {
		if got := slices.Collect(a.Free(x.from, x.to)); !slices.Equal(got, x.want) {
			t.Errorf("Free(%d, %d): %v, want %v", x.from, x.to, got, x.want)
		}
	}
}

// P9.2: an enumeration may end early at any span, and begin anew.
func TestFreeEndsWhenItShall(t *testing.T) {
	a := made(t, row(10, 20, 30, 40))
	free := a.Free(0, 50)
	for most := 1; most <= 4; most++ {
		var got []api.Span
		for s := range free {
			got = append(got, s)
			if len(got) == most {
				break
			}
		}
		if want := row(0, 10, 20, 30, 40, 50); !slices.Equal(got, want[:min(most, 3)]) {
			t.Errorf("%d: %v", most, got)
		}
	}
	pairs := 0
	for range free {
		for range free {
			pairs++
		}
	}
	if pairs != 9 {
		t.Errorf("%d pairs", pairs)
	}
}

// P9.1 and P9.2: nothing is closed.
func TestAlmanacsThatAreNotThere(t *testing.T) {
	for _, a := range []*almanac.Almanac{nil, {}, new(almanac.Almanac), made(t, nil)} {
		for _, from := range places(nil) {
			if s, ok := a.Next(from); a.Closed(from) || s != (api.Span{}) || ok {
				t.Errorf("%d: %t, %v, %t", from, a.Closed(from), s, ok)
			}
			for _, to := range places(nil) {
				if n := a.Lost(from, to, length); n != 0 {
					t.Errorf("Lost(%d, %d): %d", from, to, n)
				}
				if got, want := slices.Collect(a.Free(from, to)), gaps(nil, from, to); !slices.Equal(got, want) {
					t.Errorf("Free(%d, %d): %v, want %v", from, to, got, want)
				}
			}
		}
		if got := slices.Collect(a.Free(5, 30)); !slices.Equal(got, row(5, 30)) || len(a.Row()) != 0 || a.Lost(0, 5, nil) != 0 {
			t.Errorf("Free %v, Row %v", got, a.Row())
		}
	}
}

// P9.1 to P9.3: any rows, second by second.
func TestAnyAlmanacs(t *testing.T) {
	random := rand.New(rand.NewPCG(9, 3))
	for range 400 {
		base := []int64{0, random.Int64N(1000), api.Horizon - 250}[random.IntN(3)]
		var l []api.Span
		closed := map[int64]bool{}
		for at := base; len(l) < api.MaxSpans && at < base+200; {
			at += random.Int64N(2) * random.Int64N(20)
			to := min(api.Horizon, at+1+random.Int64N(20))
			l = append(l, api.Span{From: at, To: to})
			for ; at < to; at++ {
				closed[at] = true
			}
		}
		a := made(t, l)
		for range 50 {
			from, to := base-5+random.Int64N(300), base-5+random.Int64N(300)
			free, lost := map[int64]bool{}, int64(0)
			last := api.Span{To: -1}
			for s := range a.Free(from, to) {
				if s.From <= last.To || s.To <= s.From {
					t.Fatalf("%v: Free(%d, %d): %v after %v", l, from, to, s, last)
				}
				for at := s.From; at < s.To; at++ {
					free[at] = true
				}
				last = s
			}
			for at := max(0, from); at < min(to, api.Horizon); at++ {
				if closed[at] {
					lost++
				}
				if a.Closed(at) != closed[at] || free[at] == closed[at] {
					t.Fatalf("%v: second %d of %d to %d: closed %t, free %t", l, at, from, to, a.Closed(at), free[at])
				}
			}
			if n := a.Lost(from, to, length); n != lost || lost+int64(len(free)) != max(0, min(to, api.Horizon)-max(0, from)) {
				t.Fatalf("%v: Lost(%d, %d): %d, want %d, and %d are free", l, from, to, n, lost, len(free))
			}
		}
	}
}

// P9.3: up to the ends of time.
func TestLostAndFreeAreTheRange(t *testing.T) {
	for _, l := range rows() {
		a := made(t, l)
		for _, from := range places(l) {
			for _, to := range places(l) {
				if from < 0 || to < from || to > api.Horizon {
					continue
				}
				sum := a.Lost(from, to, length)
				for s := range a.Free(from, to) {
					sum += s.To - s.From
				}
				if sum != to-from {
					t.Errorf("%v: %d to %d: %d", l, from, to, sum)
				}
			}
		}
	}
}

// P9.1 and P9.2: an almanac that several ask at the same time.
func TestRequestsAtTheSameTime(t *testing.T) {
	a := made(t, row(10, 20, 30, 40))
	free := a.Free(0, 50)
	var workers sync.WaitGroup
	for range 8 {
		workers.Go(func() {
			for range 200 {
				if got := slices.Collect(free); !slices.Equal(got, row(0, 10, 20, 30, 40, 50)) || a.Lost(0, 50, length) != 20 || !a.Closed(35) {
					t.Error("not the same for all")
				}
			}
		})
	}
	workers.Wait()
}
