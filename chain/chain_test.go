package chain_test

import (
	"math"
	"math/rand/v2"
	"slices"
	"testing"

	"curfew/api"
	"curfew/calendar"
	"curfew/chain"
	"curfew/contract"
)

var (
	always = api.Calendar{Week: row(0, api.Week)}
	never  = api.Calendar{}
	// shut has opening hours, but no open instant.
	shut = api.Calendar{Week: row(10, 20), Closed: row(0, api.Horizon)}
	ten  = api.Calendar{Week: row(10, 20)}
)

// outside are numbers that are not instants.
var outside = []int64{-1, -2, math.MinInt64, math.MinInt64 + 1, api.Horizon + 1, 2 * api.Horizon, math.MaxInt64}

// row returns the spans whose begins and ends are given.
func row(l ...int64) []api.Span {
	var r []api.Span
	for i := 0; i+1 < len(l); i += 2 {
		r = append(r, api.Span{From: l[i], To: l[i+1]})
	}
	return r
}

// clock returns a clock that must exist.
func clock(t testing.TB, c api.Calendar) *calendar.Clock {
	t.Helper()
	k, e := calendar.New(c)
	if k == nil || e != api.OK {
		t.Fatalf("New(%v): error %d", c, int(e))
	}
	return k
}

// terms returns a contract with levels of these budgets.
func terms(budgets ...int64) api.Contract {
	c := api.Contract{Retry: 2, Backoff: 5}
	for i, n := range budgets {
		c.Levels = append(c.Levels, api.Level{Budget: n, Party: i % api.MaxParties})
	}
	return c
}

// step returns a step.
func step(level int, from, left, due int64) chain.Step {
	return chain.Step{Level: level, From: from, Left: left, Due: due}
}

// invalid returns contracts that are not valid, each in one way.
func invalid() []api.Contract {
	l := []api.Contract{{}, terms(), terms(0), terms(-1), terms(10, 0), terms(10, api.Horizon+1), terms(api.Horizon+1, 10), terms(1, 2, 3, 4, 5, 6, 7)}
	for range 5 {
		l = append(l, terms(10, 20))
	}
	n := len(l)
	l[n-1].Retry, l[n-2].Retry, l[n-3].Backoff, l[n-4].Calendar, l[n-5].Levels[1].Party = 0, api.MaxRetry+1, 0, api.MaxCalendars, api.MaxParties
	return l
}

// wantFirst makes a First and compares its results.
func wantFirst(t *testing.T, k *calendar.Clock, c api.Contract, now int64, want chain.Step, why api.Errno) {
	t.Helper()
	if s, e := chain.First(k, c, now); s != want || e != why {
		t.Errorf("First(%v, %d): %v, error %d, want %v, error %d", c, now, s, int(e), want, int(why))
	}
}

// wantNext makes a Next and compares its results.
func wantNext(t *testing.T, k *calendar.Clock, c api.Contract, s chain.Step, now int64, want chain.Step, more bool, why api.Errno) {
	t.Helper()
	if got, ok, e := chain.Next(k, c, s, now); got != want || ok != more || e != why {
		t.Errorf("Next(%v, %v, %d): %v, %t, error %d, want %v, %t, error %d", c, s, now, got, ok, int(e), want, more, int(why))
	}
}

// wantStand makes a Stand and compares its results.
func wantStand(t *testing.T, k *calendar.Clock, s chain.Step, now int64, want chain.Step, why api.Errno) {
	t.Helper()
	if got, e := chain.Stand(k, s, now); got != want || e != why {
		t.Errorf("Stand(%v, %d): %v, error %d, want %v, error %d", s, now, got, int(e), want, int(why))
	}
}

// wantGo makes a Go and compares its results.
func wantGo(t *testing.T, k *calendar.Clock, s chain.Step, now int64, want chain.Step, why api.Errno) {
	t.Helper()
	if got, e := chain.Go(k, s, now); got != want || e != why {
		t.Errorf("Go(%v, %d): %v, error %d, want %v, error %d", s, now, got, int(e), want, int(why))
	}
}

// wantPlan makes a Plan and compares its results.
func wantPlan(t *testing.T, k *calendar.Clock, c api.Contract, now int64, want []chain.Step, why api.Errno) {
	t.Helper()
	if l, e := chain.Plan(k, c, now); !slices.Equal(l, want) || e != why {
		t.Errorf("Plan(%v, %d): %v, error %d, want %v, error %d", c, now, l, int(e), want, int(why))
	}
}

// P15.1 and P15.2: the chapter's example.
func TestExample(t *testing.T) {
	k := clock(t, always)
	s, e := chain.First(k, terms(10, 20), 5)
	if s != step(0, 5, 10, 15) || e != api.OK {
		t.Errorf("First: %v, error %d", s, int(e))
	}
	s, e = chain.Stand(k, s, 8)
	if s != step(0, 8, 7, 0) || e != api.OK {
		t.Errorf("Stand: %v, error %d", s, int(e))
	}
	s, e = chain.Go(k, s, 100)
	if s != step(0, 100, 7, 107) || e != api.OK {
		t.Errorf("Go: %v, error %d", s, int(e))
	}
}

// P15.1
func TestFirst(t *testing.T) {
	k := clock(t, always)
	for _, now := range []int64{0, 1, 5, api.Week, api.Horizon - 10} {
		for _, c := range []api.Contract{terms(10), terms(10, 20), terms(10, 1), terms(10, 20, 30, 40, 50, 60)} {
			wantFirst(t, k, c, now, step(0, now, 10, now+10), api.OK)
		}
		wantFirst(t, k, terms(1, 10), now, step(0, now, 1, now+1), api.OK)
	}
	wantFirst(t, k, terms(api.Horizon, 10), 0, step(0, 0, api.Horizon, api.Horizon), api.OK)
	k = clock(t, ten)
	wantFirst(t, k, terms(5), 0, step(0, 0, 5, 15), api.OK)
	wantFirst(t, k, terms(5), 18, step(0, 18, 5, api.Week+13), api.OK)
	wantFirst(t, k, terms(10, 1), 10, step(0, 10, 10, 20), api.OK)
}

// P15.1: errors, of several the first.
func TestFirstErrors(t *testing.T) {
	k := clock(t, always)
	for _, c := range invalid() {
		if e := contract.Check(c); e != api.ErrArg {
			t.Fatalf("%v: error %d", c, int(e))
		}
		for _, other := range []*calendar.Clock{k, clock(t, never), nil, {}} {
			for _, now := range []int64{0, -1, api.Horizon} {
				wantFirst(t, other, c, now, chain.Step{}, api.ErrArg)
			}
		}
	}
	for _, now := range outside {
		wantFirst(t, k, terms(10), now, chain.Step{}, api.ErrArg)
		wantFirst(t, clock(t, never), terms(10), now, chain.Step{}, api.ErrArg)
		wantFirst(t, nil, terms(10), now, chain.Step{}, api.ErrNil)
	}
	wantFirst(t, nil, terms(10), 0, chain.Step{}, api.ErrNil)
	wantFirst(t, &calendar.Clock{}, terms(10), 0, chain.Step{}, api.ErrNil)
	wantFirst(t, clock(t, never), terms(10), 0, chain.Step{}, api.ErrClosed)
	wantFirst(t, clock(t, shut), terms(10), 0, chain.Step{}, api.ErrBig)
	wantFirst(t, k, terms(10), api.Horizon-9, chain.Step{}, api.ErrBig)
	wantFirst(t, k, terms(1), api.Horizon, chain.Step{}, api.ErrBig)
	wantFirst(t, k, terms(api.Horizon), 1, chain.Step{}, api.ErrBig)
}

// P15.1: only the Level of the step counts.
func TestNext(t *testing.T) {
	k := clock(t, always)
	c := terms(10, 20, 30, 40, 50, 60)
	for level := range 5 {
		left := int64(10 * (level + 2))
		for _, now := range []int64{0, 7, api.Week, api.Horizon - left} {
			for _, s := range []chain.Step{{Level: level}, step(level, 5, 10, 15), step(level, 500, 10, 0), step(level, -1, -1, -1), step(level, math.MaxInt64, math.MaxInt64, math.MinInt64)} {
				wantNext(t, k, c, s, now, step(level+1, now, left, now+left), true, api.OK)
			}
		}
	}
	wantNext(t, clock(t, ten), c, step(0, 0, 10, 20), 20, step(1, 20, 20, 2*api.Week+20), true, api.OK)
	wantNext(t, clock(t, ten), c, step(0, 0, 10, 20), 21, step(1, 21, 20, 2*api.Week+20), true, api.OK)
}

// P15.1: after the last level there is none, whatever the clock and the instant.
func TestNextOfTheLast(t *testing.T) {
	for _, c := range []api.Contract{terms(10), terms(10, 20), terms(10, 20, 30, 40, 50, 60)} {
		for _, k := range []*calendar.Clock{clock(t, always), clock(t, never), nil, {}} {
			for _, now := range append([]int64{0, 10, api.Horizon}, outside...) {
				wantNext(t, k, c, step(len(c.Levels)-1, 0, 10, 10), now, chain.Step{}, false, api.OK)
			}
		}
	}
}

// P15.1: errors, of several the first.
func TestNextErrors(t *testing.T) {
	k := clock(t, always)
	for _, c := range invalid() {
		for _, level := range []int{0, len(c.Levels) - 1, -1, 100} {
			wantNext(t, k, c, step(level, 0, 10, 10), 10, chain.Step{}, false, api.ErrArg)
			wantNext(t, nil, c, step(level, 0, 10, 10), -1, chain.Step{}, false, api.ErrArg)
		}
	}
	for _, c := range []api.Contract{terms(10), terms(10, 20), terms(10, 20, 30, 40, 50, 60)} {
		for _, level := range []int{-1, -2, len(c.Levels), len(c.Levels) + 1, math.MinInt, math.MaxInt} {
			wantNext(t, k, c, step(level, 0, 10, 10), 10, chain.Step{}, false, api.ErrArg)
			wantNext(t, nil, c, step(level, 0, 10, 10), 10, chain.Step{}, false, api.ErrArg)
			wantNext(t, clock(t, never), c, step(level, 0, 10, 10), -1, chain.Step{}, false, api.ErrArg)
		}
	}
	s, c := step(0, 0, 10, 10), terms(10, 20)
	for _, now := range outside {
		wantNext(t, k, c, s, now, chain.Step{}, false, api.ErrArg)
		wantNext(t, nil, c, s, now, chain.Step{}, false, api.ErrNil)
	}
	wantNext(t, nil, c, s, 10, chain.Step{}, false, api.ErrNil)
	wantNext(t, &calendar.Clock{}, c, s, 10, chain.Step{}, false, api.ErrNil)
	wantNext(t, clock(t, never), c, s, 10, chain.Step{}, false, api.ErrClosed)
	wantNext(t, clock(t, shut), c, s, 10, chain.Step{}, false, api.ErrBig)
	wantNext(t, k, c, s, api.Horizon-20, step(1, api.Horizon-20, 20, api.Horizon), true, api.OK)
	wantNext(t, k, c, s, api.Horizon-19, chain.Step{}, false, api.ErrBig)
	wantNext(t, k, c, s, api.Horizon, chain.Step{}, false, api.ErrBig)
}

// P15.2
func TestStand(t *testing.T) {
	k := clock(t, always)
	for now := int64(5); now < 15; now++ {
		for _, level := range []int{0, 3, 5, -1, 100, math.MinInt} {
			wantStand(t, k, step(level, 5, 10, 15), now, step(level, now, 15-now, 0), api.OK)
		}
	}
	k = clock(t, api.Calendar{Week: row(10, 20), Closed: row(12, 15)})
	for _, x := range []struct{ now, left int64 }{{0, 10}, {10, 10}, {11, 9}, {12, 8}, {13, 8}, {15, 8}, {16, 7}, {19, 4}, {20, 3}, {21, 3}, {api.Week + 10, 3}, {api.Week + 11, 2}, {api.Week + 12, 1}} {
		wantStand(t, k, step(1, 0, 10, api.Week+13), x.now, step(1, x.now, x.left, 0), api.OK)
	}
	// What is left depends on From and Left, not on the Due.
	wantStand(t, clock(t, always), step(2, 0, 10, api.Horizon), 4, step(2, 4, 6, 0), api.OK)
	wantStand(t, clock(t, always), step(2, 0, 10, api.Horizon), 10, step(2, 10, 0, 0), api.OK)
	wantStand(t, clock(t, always), step(2, 0, 10, math.MaxInt64), api.Horizon, step(2, api.Horizon, 0, 0), api.OK)
	wantStand(t, clock(t, always), step(2, 0, math.MaxInt64, 9), 8, step(2, 8, math.MaxInt64-8, 0), api.OK)
}

// P15.2: errors, of several the first.
func TestStandErrors(t *testing.T) {
	k := clock(t, always)
	for _, other := range []*calendar.Clock{k, clock(t, never), nil, {}} {
		for _, now := range append([]int64{0, 4, 5, 15, api.Horizon}, outside...) {
			wantStand(t, other, step(0, 5, 10, 0), now, chain.Step{}, api.ErrState)
			wantStand(t, other, step(-1, -1, -1, 0), now, chain.Step{}, api.ErrState)
			wantStand(t, other, chain.Step{}, now, chain.Step{}, api.ErrState)
		}
		for _, now := range []int64{15, 16, api.Horizon, api.Horizon + 1, math.MaxInt64} {
			wantStand(t, other, step(0, 5, 10, 15), now, chain.Step{}, api.ErrOld)
			wantStand(t, other, step(0, -5, -10, 15), now, chain.Step{}, api.ErrOld)
			wantStand(t, other, step(0, 5, 10, 1), now, chain.Step{}, api.ErrOld)
			wantStand(t, other, step(0, 5, 10, -1), now, chain.Step{}, api.ErrOld)
		}
		wantStand(t, other, step(0, 5, 10, -1), -1, chain.Step{}, api.ErrOld)
		wantStand(t, other, step(0, 5, 10, math.MinInt64), math.MinInt64, chain.Step{}, api.ErrOld)
	}
	wantStand(t, nil, step(0, 5, 10, 15), 8, chain.Step{}, api.ErrNil)
	wantStand(t, &calendar.Clock{}, step(0, 5, 10, 15), 8, chain.Step{}, api.ErrNil)
	wantStand(t, k, step(0, 5, -1, 15), 8, chain.Step{}, api.ErrArg)
	wantStand(t, k, step(0, 5, 10, 15), 4, chain.Step{}, api.ErrArg)
	wantStand(t, k, step(0, -1, 10, 15), 4, chain.Step{}, api.ErrArg)
	wantStand(t, k, step(0, 5, 10, -1), -2, chain.Step{}, api.ErrArg)
	wantStand(t, k, step(0, 0, 10, math.MaxInt64), api.Horizon+1, chain.Step{}, api.ErrArg)
	for _, now := range outside {
		if now < 0 {
			wantStand(t, k, step(0, 5, 10, 15), now, chain.Step{}, api.ErrArg)
		}
	}
}

// P15.2
func TestGo(t *testing.T) {
	k := clock(t, always)
	for _, level := range []int{0, 3, 5, -1, 100, math.MaxInt} {
		for _, from := range []int64{0, 8, -1, math.MaxInt64} {
			wantGo(t, k, step(level, from, 7, 0), 100, step(level, 100, 7, 107), api.OK)
			wantGo(t, k, step(level, from, 1, 0), 0, step(level, 0, 1, 1), api.OK)
			wantGo(t, k, step(level, from, 7, 0), api.Horizon-7, step(level, api.Horizon-7, 7, api.Horizon), api.OK)
		}
	}
	wantGo(t, k, step(1, 0, api.Horizon, 0), 0, step(1, 0, api.Horizon, api.Horizon), api.OK)
	k = clock(t, ten)
	wantGo(t, k, step(1, 0, 7, 0), 15, step(1, 15, 7, api.Week+12), api.OK)
	wantGo(t, k, step(1, 0, 5, 0), 15, step(1, 15, 5, 20), api.OK)
	wantGo(t, k, step(1, 0, 6, 0), 15, step(1, 15, 6, api.Week+11), api.OK)
}

// P15.2: errors, of several the first.
func TestGoErrors(t *testing.T) {
	k := clock(t, always)
	for _, other := range []*calendar.Clock{k, clock(t, never), nil, {}} {
		for _, now := range append([]int64{0, 8, api.Horizon}, outside...) {
			for _, due := range []int64{15, 1, -1, api.Horizon, math.MinInt64, math.MaxInt64} {
				wantGo(t, other, step(0, 5, 10, due), now, chain.Step{}, api.ErrState)
				wantGo(t, other, step(0, 5, 0, due), now, chain.Step{}, api.ErrState)
			}
			for _, left := range []int64{0, -1, math.MinInt64} {
				wantGo(t, other, step(0, 5, left, 0), now, chain.Step{}, api.ErrArg)
			}
		}
	}
	for _, now := range outside {
		wantGo(t, k, step(0, 5, 7, 0), now, chain.Step{}, api.ErrArg)
		wantGo(t, clock(t, never), step(0, 5, 7, 0), now, chain.Step{}, api.ErrArg)
	}
	wantGo(t, nil, step(0, 5, 7, 0), 8, chain.Step{}, api.ErrNil)
	wantGo(t, &calendar.Clock{}, step(0, 5, 7, 0), 8, chain.Step{}, api.ErrNil)
	wantGo(t, clock(t, never), step(0, 5, 7, 0), 8, chain.Step{}, api.ErrClosed)
	wantGo(t, clock(t, shut), step(0, 5, 7, 0), 8, chain.Step{}, api.ErrBig)
	wantGo(t, k, step(0, 5, 7, 0), api.Horizon-6, chain.Step{}, api.ErrBig)
	wantGo(t, k, step(0, 5, 1, 0), api.Horizon, chain.Step{}, api.ErrBig)
	wantGo(t, k, step(0, 5, math.MaxInt64, 0), 0, chain.Step{}, api.ErrBig)
}

// P15.3
func TestPlan(t *testing.T) {
	k := clock(t, always)
	wantPlan(t, k, terms(10), 5, []chain.Step{step(0, 5, 10, 15)}, api.OK)
	wantPlan(t, k, terms(10, 20), 0, []chain.Step{step(0, 0, 10, 10), step(1, 10, 20, 30)}, api.OK)
	wantPlan(t, k, terms(10, 1, 30, 2, 50, 3), 7, []chain.Step{step(0, 7, 10, 17), step(1, 17, 1, 18), step(2, 18, 30, 48), step(3, 48, 2, 50), step(4, 50, 50, 100), step(5, 100, 3, 103)}, api.OK)
	wantPlan(t, clock(t, ten), terms(5, 5, 1, 10), 0, []chain.Step{step(0, 0, 5, 15), step(1, 15, 5, 20), step(2, 20, 1, api.Week+11), step(3, api.Week+11, 10, 2*api.Week+11)}, api.OK)
	wantPlan(t, k, terms(10, api.Horizon-10), 0, []chain.Step{step(0, 0, 10, 10), step(1, 10, api.Horizon-10, api.Horizon)}, api.OK)
	wantPlan(t, k, terms(10, 20), api.Horizon-30, []chain.Step{step(0, api.Horizon-30, 10, api.Horizon-20), step(1, api.Horizon-20, 20, api.Horizon)}, api.OK)
}

// P15.3: with an error at any step there are no steps.
func TestPlanErrors(t *testing.T) {
	k := clock(t, always)
	for _, c := range invalid() {
		wantPlan(t, k, c, 0, nil, api.ErrArg)
		wantPlan(t, nil, c, 0, nil, api.ErrArg)
		wantPlan(t, clock(t, never), c, -1, nil, api.ErrArg)
	}
	for _, now := range outside {
		wantPlan(t, k, terms(10, 20), now, nil, api.ErrArg)
	}
	wantPlan(t, nil, terms(10), 0, nil, api.ErrNil)
	wantPlan(t, &calendar.Clock{}, terms(10), 0, nil, api.ErrNil)
	wantPlan(t, clock(t, never), terms(10), 0, nil, api.ErrClosed)
	wantPlan(t, clock(t, shut), terms(10), 0, nil, api.ErrBig)
	wantPlan(t, k, terms(10, 20), api.Horizon-29, nil, api.ErrBig)
	wantPlan(t, k, terms(10, 20), api.Horizon-10, nil, api.ErrBig)
	wantPlan(t, k, terms(10, 20), api.Horizon-9, nil, api.ErrBig)
	wantPlan(t, k, terms(1, 2, 3, 4, 5, 6), api.Horizon-20, nil, api.ErrBig)
	wantPlan(t, k, terms(1, 1, 1, 1, 1, api.Horizon-5), 0, []chain.Step{step(0, 0, 1, 1), step(1, 1, 1, 2), step(2, 2, 1, 3), step(3, 3, 1, 4), step(4, 4, 1, 5), step(5, 5, api.Horizon-5, api.Horizon)}, api.OK)
	wantPlan(t, k, terms(1, 1, 1, 1, 1, api.Horizon-4), 0, nil, api.ErrBig)
	for _, now := range []int64{api.Horizon - 10, api.Horizon} {
		if l, _ := chain.Plan(k, terms(5, 20), now); len(l) != 0 {
			t.Errorf("steps with an error: %v", l)
		}
	}
}

// Nothing that is given is changed, including what lies behind the levels.
func TestArgumentsStay(t *testing.T) {
	spare := terms(10, 20, 30, 40).Levels
	before := slices.Clone(spare)
	c := terms(10, 20)
	c.Levels = spare[:2]
	k := clock(t, always)
	chain.First(k, c, 0)
	chain.Next(k, c, step(0, 0, 10, 10), 10)
	chain.Plan(k, c, 0)
	if !slices.Equal(spare, before) || len(c.Levels) != 2 {
		t.Errorf("levels are now %v", spare)
	}
	// Nobody else notices what is written to a plan.
	l, _ := chain.Plan(k, c, 0)
	l[0] = step(9, 9, 9, 9)
	_ = append(l, step(8, 8, 8, 8))
	wantPlan(t, k, c, 0, []chain.Step{step(0, 0, 10, 10), step(1, 10, 20, 30)}, api.OK)
}

// anyCalendar returns a calendar that is open for some seconds of each week.
func anyCalendar(random *rand.Rand) api.Calendar {
	c := api.Calendar{Offset: random.Int64N(api.Week)}
	at := int64(0)
	for range 1 + random.IntN(5) {
		at += random.Int64N(100)
		to := at + 1 + random.Int64N(200)
		c.Week = append(c.Week, api.Span{From: at, To: to})
		at = to
	}
	at = 0
	for range random.IntN(4) {
		at += random.Int64N(api.Week)
		to := at + 1 + random.Int64N(api.Week/2)
		c.Closed = append(c.Closed, api.Span{From: at, To: to})
		at = to
	}
	return c
}

// P15.4: each step of a plan is due after as many open instants as the sum of all budgets up to it, and not before.
func TestSums(t *testing.T) {
	random := rand.New(rand.NewPCG(15, 1))
	for range 500 {
		k, now := clock(t, anyCalendar(random)), random.Int64N(3*api.Week)
		var budgets []int64
		for range 1 + random.IntN(api.MaxLevels) {
			budgets = append(budgets, 1+random.Int64N(400))
		}
		l, e := chain.Plan(k, terms(budgets...), now)
		if len(l) != len(budgets) || e != api.OK {
			t.Fatalf("%v: Plan(%v, %d): %v, error %d", k.Plain(), budgets, now, l, int(e))
		}
		sum, from := int64(0), now
		for i, s := range l {
			sum += budgets[i]
			n, _ := k.Elapsed(now, s.Due)
			if s.Level != i || s.From != from || s.Left != budgets[i] || n != sum || !k.Open(s.Due-1) {
				t.Fatalf("%v: Plan(%v, %d): %v, up to step %d %d instants have elapsed", k.Plain(), budgets, now, l, i, n)
			}
			from = s.Due
		}
	}
}

// P15.4: a step that is stopped and resumed at the same instant has the same Due. After a time that it is stopped, it is due when what was left has elapsed.
func TestStopsAndGoes(t *testing.T) {
	random := rand.New(rand.NewPCG(15, 2))
	for range 500 {
		k, now := clock(t, anyCalendar(random)), random.Int64N(3*api.Week)
		budget := 1 + random.Int64N(1000)
		s, e := chain.First(k, terms(budget), now)
		if e != api.OK {
			t.Fatalf("%v: First(%d, %d): error %d", k.Plain(), budget, now, int(e))
		}
		used := int64(0)
		for range 20 {
			at := s.From + random.Int64N(s.Due-s.From)
			n, _ := k.Elapsed(s.From, at)
			used += n
			still, e := chain.Stand(k, s, at)
			if still != step(0, at, budget-used, 0) || still.Left < 1 || e != api.OK {
				t.Fatalf("%v: Stand(%v, %d): %v, error %d, want %d left", k.Plain(), s, at, still, int(e), budget-used)
			}
			if same, e := chain.Go(k, still, at); same != step(0, at, budget-used, s.Due) || e != api.OK {
				t.Fatalf("%v: Go(%v, %d): %v, error %d, want Due %d", k.Plain(), still, at, same, int(e), s.Due)
			}
			at += random.Int64N(2) * random.Int64N(2*api.Week)
			s, e = chain.Go(k, still, at)
			if n, _ := k.Elapsed(at, s.Due); n != budget-used || !k.Open(s.Due-1) || s.From != at || s.Left != n || s.Level != 0 || e != api.OK {
				t.Fatalf("%v: Go(%v, %d): %v, error %d", k.Plain(), still, at, s, int(e))
			}
		}
	}
}

// P15.1, P15.2: any arguments return a result or an error.
func TestAnyArguments(t *testing.T) {
	numbers := append([]int64{0, 1, 2, 9, 10, 15, 20, api.Week, api.Horizon - 1, api.Horizon}, outside...)
	clocks := []*calendar.Clock{clock(t, always), clock(t, ten), clock(t, never), clock(t, shut), nil, {}}
	c := terms(10, 20)
	for _, k := range clocks {
		for _, from := range numbers {
			for _, left := range numbers {
				for _, due := range numbers {
					for _, now := range numbers {
						s := step(0, from, left, due)
						if got, e := chain.Stand(k, s, now); e != api.OK && got != (chain.Step{}) || e == api.OK && (got.Due != 0 || got.From != now || got.Left < 0 || got.Left > left) {
							t.Fatalf("Stand(%v, %d): %v, error %d", s, now, got, int(e))
						}
						if got, e := chain.Go(k, s, now); e != api.OK && got != (chain.Step{}) || e == api.OK && (got.Due < now+left || got.From != now || got.Left != left) {
							t.Fatalf("Go(%v, %d): %v, error %d", s, now, got, int(e))
						}
						if got, ok, e := chain.Next(k, c, s, now); ok != (e == api.OK) || !ok && got != (chain.Step{}) || ok && (got.Level != 1 || got.Left != 20 || got.From != now) {
							t.Fatalf("Next(%v, %d): %v, %t, error %d", s, now, got, ok, int(e))
						}
					}
				}
			}
		}
	}
}
