package ticket_test

import (
	"bytes"
	"math"
	"math/rand/v2"
	"slices"
	"testing"

	"curfew/api"
	"curfew/calendar"
	"curfew/chain"
	"curfew/quill"
	"curfew/ticket"
)

var (
	always = api.Calendar{Week: row(0, api.Week)}
	never  = api.Calendar{}
	// shut has opening hours, but no open instant.
	shut = api.Calendar{Week: row(10, 20), Closed: row(0, api.Horizon)}
	ten  = api.Calendar{Week: row(10, 20)}
)

// outside are numbers that are not instants.
var outside = []int64{-1, -2, math.MinInt64, math.MinInt64 + 1, api.Horizon + 1, 2 * api.Horizon, math.MaxInt64}

// strange are numbers that are no State.
var strange = []int{0, -1, 5, 6, math.MinInt, math.MaxInt}

// row returns the spans whose begins and ends are given.
func row(l ...int64) []api.Span {
	var r []api.Span
	for i := 0; i+1 < len(l); i += 2 {
		r = append(r, api.Span{From: l[i], To: l[i+1]})
	}
	return r
}

// clock returns a clock that must exist.
func clock(t testing.TB, c api.Calendar) *calendar.Clock {
	t.Helper()
	k, e := calendar.New(c)
	if k == nil || e != api.OK {
		t.Fatalf("New(%v): error %d", c, int(e))
	}
	return k
}

// terms returns a contract with levels of these budgets.
func terms(budgets ...int64) api.Contract {
	c := api.Contract{Retry: 2, Backoff: 5}
	for i, n := range budgets {
		c.Levels = append(c.Levels, api.Level{Budget: n, Party: i % api.MaxParties})
	}
	return c
}

// invalid returns contracts that are not valid.
func invalid() []api.Contract {
	l := []api.Contract{{}, terms(), terms(0), terms(10, -1), terms(10, api.Horizon+1), terms(1, 2, 3, 4, 5, 6, 7), terms(10, 20), terms(10, 20), terms(10, 20)}
	l[6].Retry, l[7].Backoff, l[8].Calendar = 0, api.MaxBackoff+1, -1
	return l
}

// running returns a ticket in that State, as paused, spent and resolved do. All have the same ID, Contract and Told.
func running(level int, from, left, due int64) api.Ticket {
	return api.Ticket{ID: 77, Contract: 3, State: api.Running, Level: level, Gen: 9, From: from, Left: left, Due: due, Told: 40}
}

func paused(level int, from, left int64) api.Ticket {
	return api.Ticket{ID: 77, Contract: 3, State: api.Paused, Level: level, From: from, Left: left, Told: 40}
}

func spent(level int) api.Ticket {
	return api.Ticket{ID: 77, Contract: 3, State: api.Spent, Level: level, Told: 40}
}

func resolved(level int) api.Ticket {
	return api.Ticket{ID: 77, Contract: 3, State: api.Resolved, Level: level, Told: 40}
}

// changed returns a ticket with a change.
func changed(x api.Ticket, change func(x *api.Ticket)) api.Ticket {
	change(&x)
	return x
}

// unarmed returns a ticket without a number.
func unarmed(x api.Ticket) api.Ticket {
	x.Gen = 0
	return x
}

// told returns a ticket that has caused one notice more.
func told(x api.Ticket) api.Ticket {
	x.Told++
	return x
}

// in returns a ticket of which only the State is another one.
func in(x api.Ticket, state int) api.Ticket {
	x.State = state
	return x
}

// want compares the results of a call.
func want(t *testing.T, what string, got api.Ticket, e api.Errno, x api.Ticket, why api.Errno) {
	t.Helper()
	if got != x || e != why {
		t.Errorf("%s: %v, error %d, want %v, error %d", what, got, int(e), x, int(why))
	}
}

func wantOpen(t *testing.T, id uint64, n int, k *calendar.Clock, c api.Contract, now int64, x api.Ticket, why api.Errno) {
	t.Helper()
	got, e := ticket.Open(id, n, k, c, now)
	want(t, "Open", got, e, x, why)
}

func wantPause(t *testing.T, from api.Ticket, k *calendar.Clock, now int64, x api.Ticket, why api.Errno) {
	t.Helper()
	got, e := ticket.Pause(from, k, now)
	want(t, "Pause", got, e, x, why)
}

func wantResume(t *testing.T, from api.Ticket, k *calendar.Clock, now int64, x api.Ticket, why api.Errno) {
	t.Helper()
	got, e := ticket.Resume(from, k, now)
	want(t, "Resume", got, e, x, why)
}

func wantResolve(t *testing.T, from, x api.Ticket, why api.Errno) {
	t.Helper()
	got, e := ticket.Resolve(from)
	want(t, "Resolve", got, e, x, why)
}

func wantReopen(t *testing.T, from api.Ticket, k *calendar.Clock, c api.Contract, now int64, x api.Ticket, why api.Errno) {
	t.Helper()
	got, e := ticket.Reopen(from, k, c, now)
	want(t, "Reopen", got, e, x, why)
}

func wantFire(t *testing.T, from api.Ticket, k *calendar.Clock, c api.Contract, now int64, x api.Ticket, met int, why api.Errno) {
	t.Helper()
	got, level, e := ticket.Fire(from, k, c, now)
	want(t, "Fire", got, e, x, why)
	if level != met {
		t.Errorf("Fire of %v at %d: level %d, want %d", from, now, level, met)
	}
}

// P16.1, P16.2: the chapter's example.
func TestExample(t *testing.T) {
	k, c := clock(t, always), terms(10, 20)
	x, e := ticket.Open(1, 0, k, c, 0)
	if x.Due != 10 || e != api.OK {
		t.Errorf("Open: %v, error %d", x, int(e))
	}
	x, level, e := ticket.Fire(x, k, c, 12)
	if level != 0 || x.Due != 32 || x.State != api.Running || e != api.OK {
		t.Errorf("Fire at 12: %v, %d, error %d", x, level, int(e))
	}
	x, level, e = ticket.Fire(x, k, c, 32)
	if level != 1 || x.State != api.Spent || e != api.OK {
		t.Errorf("Fire at 32: %v, %d, error %d", x, level, int(e))
	}
}

// P16.1
func TestOpen(t *testing.T) {
	for _, id := range []uint64{0, 1, 77, math.MaxUint64} {
		for _, n := range []int{0, 1, api.MaxContracts - 1} {
			wantOpen(t, id, n, clock(t, always), terms(10, 20), 5, api.Ticket{ID: id, Contract: n, State: api.Running, From: 5, Left: 10, Due: 15}, api.OK)
			wantOpen(t, id, n, clock(t, ten), terms(5), 18, api.Ticket{ID: id, Contract: n, State: api.Running, From: 18, Left: 5, Due: api.Week + 13}, api.OK)
		}
	}
	wantOpen(t, 1, 0, clock(t, always), terms(10), api.Horizon-10, api.Ticket{ID: 1, State: api.Running, From: api.Horizon - 10, Left: 10, Due: api.Horizon}, api.OK)
}

// P16.1: errors, of several the first.
func TestOpenErrors(t *testing.T) {
	for _, n := range []int{-1, -2, api.MaxContracts, api.MaxContracts + 1, math.MinInt, math.MaxInt} {
		for _, k := range []*calendar.Clock{clock(t, always), clock(t, never), nil, {}} {
			wantOpen(t, 1, n, k, terms(10), 5, api.Ticket{}, api.ErrArg)
		}
	}
	for _, c := range invalid() {
		for _, k := range []*calendar.Clock{clock(t, always), clock(t, never), nil, {}} {
			wantOpen(t, 1, 0, k, c, 5, api.Ticket{}, api.ErrArg)
		}
	}
	for _, now := range outside {
		wantOpen(t, 1, 0, clock(t, always), terms(10), now, api.Ticket{}, api.ErrArg)
	}
	wantOpen(t, 1, 0, nil, terms(10), 5, api.Ticket{}, api.ErrNil)
	wantOpen(t, 1, 0, &calendar.Clock{}, terms(10), 5, api.Ticket{}, api.ErrNil)
	wantOpen(t, 1, 0, clock(t, never), terms(10), 5, api.Ticket{}, api.ErrClosed)
	wantOpen(t, 1, 0, clock(t, shut), terms(10), 5, api.Ticket{}, api.ErrBig)
	wantOpen(t, 1, 0, clock(t, always), terms(10), api.Horizon-9, api.Ticket{}, api.ErrBig)
}

// P16.1
func TestPause(t *testing.T) {
	k := clock(t, always)
	for _, level := range []int{0, 1, 5} {
		for now := int64(5); now < 15; now++ {
			wantPause(t, running(level, 5, 10, 15), k, now, paused(level, now, 15-now), api.OK)
			wantPause(t, unarmed(running(level, 5, 10, 15)), k, now, paused(level, now, 15-now), api.OK)
		}
	}
	wantPause(t, running(1, 0, 5, 15), clock(t, ten), 12, paused(1, 12, 3), api.OK)
	wantPause(t, running(1, 0, 5, 15), clock(t, ten), 7, paused(1, 7, 5), api.OK)
	// Errors, of several the first.
	for _, c := range []*calendar.Clock{k, nil, {}} {
		for _, x := range []api.Ticket{paused(0, 5, 10), spent(0), resolved(0), {}} {
			wantPause(t, x, c, 8, api.Ticket{}, api.ErrState)
			wantPause(t, x, c, -1, api.Ticket{}, api.ErrState)
		}
		for _, state := range strange {
			wantPause(t, in(running(0, 5, 10, 15), state), c, 8, api.Ticket{}, api.ErrState)
		}
		for _, state := range []int{api.Paused, api.Spent, api.Resolved} {
			wantPause(t, in(running(0, 5, 10, 15), state), c, 8, api.Ticket{}, api.ErrState)
		}
		wantPause(t, running(0, 5, 10, 0), c, 8, api.Ticket{}, api.ErrState)
		wantPause(t, running(0, 5, 10, 15), c, 15, api.Ticket{}, api.ErrOld)
		wantPause(t, running(0, 5, 10, 15), c, math.MaxInt64, api.Ticket{}, api.ErrOld)
	}
	wantPause(t, running(0, 5, 10, 15), k, 4, api.Ticket{}, api.ErrArg)
	wantPause(t, running(0, 5, 10, 15), k, -1, api.Ticket{}, api.ErrArg)
	wantPause(t, running(0, 5, 10, 15), nil, 8, api.Ticket{}, api.ErrNil)
	wantPause(t, running(0, 5, 10, 15), &calendar.Clock{}, 8, api.Ticket{}, api.ErrNil)
}

// P16.1
func TestResume(t *testing.T) {
	k := clock(t, always)
	for _, level := range []int{0, 1, 5} {
		for _, now := range []int64{0, 5, 100, api.Horizon - 7} {
			wantResume(t, paused(level, 5, 7), k, now, unarmed(running(level, now, 7, now+7)), api.OK)
			wantResume(t, changed(paused(level, 5, 7), func(x *api.Ticket) { x.Gen = 9 }), k, now, unarmed(running(level, now, 7, now+7)), api.OK)
		}
	}
	wantResume(t, paused(1, 5, 7), clock(t, ten), 15, unarmed(running(1, 15, 7, api.Week+12)), api.OK)
	// Errors, of several the first.
	for _, c := range []*calendar.Clock{k, clock(t, never), nil, {}} {
		for _, x := range []api.Ticket{running(0, 5, 10, 15), spent(0), resolved(0), {}} {
			wantResume(t, x, c, 8, api.Ticket{}, api.ErrState)
			wantResume(t, x, c, -1, api.Ticket{}, api.ErrState)
		}
		for _, state := range append([]int{api.Running, api.Spent, api.Resolved}, strange...) {
			wantResume(t, in(paused(0, 5, 10), state), c, 8, api.Ticket{}, api.ErrState)
		}
		wantResume(t, in(running(0, 5, 10, 15), api.Paused), c, 8, api.Ticket{}, api.ErrState)
		wantResume(t, paused(0, 5, 0), c, 8, api.Ticket{}, api.ErrArg)
		wantResume(t, paused(0, 5, -1), c, -1, api.Ticket{}, api.ErrArg)
	}
	for _, now := range outside {
		wantResume(t, paused(0, 5, 7), k, now, api.Ticket{}, api.ErrArg)
	}
	wantResume(t, paused(0, 5, 7), nil, 8, api.Ticket{}, api.ErrNil)
	wantResume(t, paused(0, 5, 7), &calendar.Clock{}, 8, api.Ticket{}, api.ErrNil)
	wantResume(t, paused(0, 5, 7), clock(t, never), 8, api.Ticket{}, api.ErrClosed)
	wantResume(t, paused(0, 5, 7), clock(t, shut), 8, api.Ticket{}, api.ErrBig)
	wantResume(t, paused(0, 5, 7), k, api.Horizon-6, api.Ticket{}, api.ErrBig)
}

// P16.1
func TestResolve(t *testing.T) {
	for _, level := range []int{0, 1, 5} {
		for _, x := range []api.Ticket{running(level, 5, 10, 15), unarmed(running(level, 5, 10, 15)), paused(level, 8, 7), spent(level), in(running(level, 5, 10, 15), api.Paused), in(running(level, 5, 10, 15), api.Spent)} {
			wantResolve(t, x, resolved(level), api.OK)
		}
		wantResolve(t, resolved(level), api.Ticket{}, api.ErrState)
		wantResolve(t, in(running(level, 5, 10, 15), api.Resolved), api.Ticket{}, api.ErrState)
		for _, state := range strange {
			wantResolve(t, in(running(level, 5, 10, 15), state), api.Ticket{}, api.ErrState)
			wantResolve(t, in(spent(level), state), api.Ticket{}, api.ErrState)
		}
	}
}

// P16.1: it begins at level 0 again, and what it has caused is not forgotten.
func TestReopen(t *testing.T) {
	k, c := clock(t, always), terms(10, 20)
	for _, level := range []int{0, 1, 5} {
		for _, now := range []int64{0, 5, api.Horizon - 10} {
			wantReopen(t, resolved(level), k, c, now, unarmed(running(0, now, 10, now+10)), api.OK)
			wantReopen(t, in(running(level, 5, 10, 15), api.Resolved), k, c, now, unarmed(running(0, now, 10, now+10)), api.OK)
		}
	}
	wantReopen(t, resolved(1), clock(t, ten), terms(5), 18, unarmed(running(0, 18, 5, api.Week+13)), api.OK)
	// Errors, of several the first.
	for _, other := range []*calendar.Clock{k, clock(t, never), nil, {}} {
		for _, x := range []api.Ticket{running(0, 5, 10, 15), paused(0, 5, 10), spent(0), {}} {
			wantReopen(t, x, other, c, 8, api.Ticket{}, api.ErrState)
			wantReopen(t, x, other, terms(), -1, api.Ticket{}, api.ErrState)
		}
		for _, state := range append([]int{api.Running, api.Paused, api.Spent}, strange...) {
			wantReopen(t, in(resolved(0), state), other, c, 8, api.Ticket{}, api.ErrState)
		}
		for _, bad := range invalid() {
			wantReopen(t, resolved(0), other, bad, 8, api.Ticket{}, api.ErrArg)
		}
	}
	for _, now := range outside {
		wantReopen(t, resolved(0), k, c, now, api.Ticket{}, api.ErrArg)
	}
	wantReopen(t, resolved(0), nil, c, 8, api.Ticket{}, api.ErrNil)
	wantReopen(t, resolved(0), &calendar.Clock{}, c, 8, api.Ticket{}, api.ErrNil)
	wantReopen(t, resolved(0), clock(t, never), c, 8, api.Ticket{}, api.ErrClosed)
	wantReopen(t, resolved(0), clock(t, shut), c, 8, api.Ticket{}, api.ErrBig)
	wantReopen(t, resolved(0), k, c, api.Horizon-9, api.Ticket{}, api.ErrBig)
}

// P16.2: the next step begins when the deadline is met, not when it was due.
func TestFire(t *testing.T) {
	k, c := clock(t, always), terms(10, 20, 30, 40, 50, 60)
	for level := range 5 {
		left := int64(10 * (level + 2))
		for _, now := range []int64{15, 16, 100, api.Horizon - left} {
			wantFire(t, running(level, 5, 10, 15), k, c, now, told(unarmed(running(level+1, now, left, now+left))), level, api.OK)
			wantFire(t, unarmed(running(level, 5, 10, 15)), k, c, now, told(unarmed(running(level+1, now, left, now+left))), level, api.OK)
		}
	}
	wantFire(t, running(0, 0, 10, 20), clock(t, ten), terms(10, 5), 25, told(unarmed(running(1, 25, 5, api.Week+15))), 0, api.OK)
	for n := 1; n <= api.MaxLevels; n++ {
		for _, now := range []int64{15, 16, 100, api.Horizon} {
			c.Levels = terms(10, 20, 30, 40, 50, 60).Levels[:n]
			wantFire(t, running(n-1, 5, 10, 15), k, c, now, told(spent(n-1)), n-1, api.OK)
		}
	}
}

// P16.2: a ticket whose next step cannot be computed is Spent.
func TestFireWithoutNext(t *testing.T) {
	k, c := clock(t, always), terms(10, 20, 30)
	for level := range 2 {
		left := int64(10 * (level + 2))
		wantFire(t, running(level, 5, 10, 15), k, c, api.Horizon-left, told(unarmed(running(level+1, api.Horizon-left, left, api.Horizon))), level, api.OK)
		for _, now := range []int64{api.Horizon - left + 1, api.Horizon, api.Horizon + 1, math.MaxInt64} {
			wantFire(t, running(level, 5, 10, 15), k, c, now, told(spent(level)), level, api.OK)
		}
		for _, other := range []*calendar.Clock{clock(t, never), clock(t, shut), nil, {}} {
			wantFire(t, running(level, 5, 10, 15), other, c, 15, told(spent(level)), level, api.OK)
		}
		wantFire(t, running(level, 5, 10, -5), k, c, -1, told(spent(level)), level, api.OK)
	}
}

// P16.2: errors, of several the first.
func TestFireErrors(t *testing.T) {
	k, c := clock(t, always), terms(10, 20)
	for _, other := range []*calendar.Clock{k, clock(t, never), nil, {}} {
		for _, x := range []api.Ticket{paused(0, 5, 10), spent(0), resolved(0), {}} {
			for _, now := range []int64{0, 15, -1} {
				wantFire(t, x, other, c, now, api.Ticket{}, 0, api.ErrState)
				wantFire(t, x, other, terms(), now, api.Ticket{}, 0, api.ErrState)
			}
		}
		for _, state := range append([]int{api.Paused, api.Spent, api.Resolved}, strange...) {
			wantFire(t, in(running(1, 5, 10, 15), state), other, c, 15, api.Ticket{}, 0, api.ErrState)
			wantFire(t, in(running(1, 5, 10, 15), state), other, c, 14, api.Ticket{}, 0, api.ErrState)
		}
		for _, now := range []int64{14, 5, 0, -1, math.MinInt64} {
			wantFire(t, running(1, 5, 10, 15), other, c, now, api.Ticket{}, 0, api.ErrBusy)
			wantFire(t, running(7, 5, 10, 15), other, terms(), now, api.Ticket{}, 0, api.ErrBusy)
		}
		for _, bad := range invalid() {
			for _, level := range []int{0, 1, -1, 7} {
				wantFire(t, running(level, 5, 10, 15), other, bad, 15, api.Ticket{}, 0, api.ErrArg)
			}
		}
		for _, level := range []int{-1, 2, 3, 6, math.MinInt, math.MaxInt} {
			wantFire(t, running(level, 5, 10, 15), other, c, 15, api.Ticket{}, 0, api.ErrArg)
		}
		wantFire(t, running(1, 5, 10, 15), other, terms(10), 15, api.Ticket{}, 0, api.ErrArg)
	}
}

// P16.2: notices are counted up to 2^31, whether the chain goes on or ends.
func TestTold(t *testing.T) {
	k, c := clock(t, always), terms(10, 20)
	for _, x := range []struct{ told, want int }{{0, 1}, {1, 2}, {1<<31 - 2, 1<<31 - 1}, {1<<31 - 1, 1 << 31}, {1 << 31, 1 << 31}} {
		for level := range 2 {
			from := changed(running(level, 5, 10, 15), func(y *api.Ticket) { y.Told = x.told })
			if got, _, e := ticket.Fire(from, k, c, 15); got.Told != x.want || e != api.OK {
				t.Errorf("Fire of %v: Told %d, error %d", from, got.Told, int(e))
			}
		}
	}
}

// P16.2
func TestAhead(t *testing.T) {
	for n := 1; n <= api.MaxLevels; n++ {
		c := terms(10, 20, 30, 40, 50, 60)
		c.Levels = c.Levels[:n]
		for level := range api.MaxLevels {
			ahead := max(0, n-level)
			for _, x := range []api.Ticket{running(level, 5, 10, 15), unarmed(running(level, 5, 10, 15)), paused(level, 8, 7)} {
				if got := ticket.Ahead(x, c); got != ahead {
					t.Errorf("%v of %d levels: %d", x, n, got)
				}
			}
			for _, x := range append([]api.Ticket{spent(level), resolved(level)}, strangers(level)...) {
				if got := ticket.Ahead(x, c); got != 0 {
					t.Errorf("%v of %d levels: %d", x, n, got)
				}
			}
		}
		// Levels that do not exist.
		for _, level := range []int{-1, -2, n, n + 1, math.MinInt, math.MaxInt} {
			for _, x := range []api.Ticket{running(level, 5, 10, 15), paused(level, 8, 7)} {
				if got := ticket.Ahead(x, c); got != 0 {
					t.Errorf("%v of %d levels: %d", x, n, got)
				}
			}
		}
	}
	if got := ticket.Ahead(running(0, 5, 10, 15), api.Contract{}); got != 0 {
		t.Errorf("without levels: %d", got)
	}
}

// strangers returns tickets whose State is invalid.
func strangers(level int) []api.Ticket {
	var l []api.Ticket
	for _, state := range strange {
		l = append(l, in(running(level, 5, 10, 15), state), in(paused(level, 8, 7), state), in(spent(level), state))
	}
	return l
}

// sound returns tickets with each bound.
func sound() []api.Ticket {
	l := []api.Ticket{
		{State: api.Spent}, {State: api.Resolved}, {State: api.Paused, Left: 1}, {State: api.Running, Gen: 1, Left: 1, Due: 1},
		running(0, 0, 1, 1), running(0, 5, 10, 15), running(5, 5, 10, 16), running(1, 0, 1, api.Horizon), running(1, api.Horizon-1, 1, api.Horizon), running(1, 0, api.Horizon, api.Horizon), running(2, 300, 70000, 1<<40),
		paused(0, 0, 1), paused(5, api.Horizon, api.Horizon), paused(1, 0, api.Horizon), paused(1, api.Horizon, 1), paused(2, 8, 300), spent(0), spent(5), resolved(0), resolved(5),
		changed(running(1, 5, 10, 15), func(x *api.Ticket) { x.Gen = 1 }), changed(running(1, 5, 10, 15), func(x *api.Ticket) { x.Gen = api.MaxIndex }),
	}
	for _, x := range []api.Ticket{running(1, 5, 10, 15), paused(1, 8, 7), spent(1), resolved(1)} {
		l = append(l, changed(x, func(x *api.Ticket) { x.ID = 0 }), changed(x, func(x *api.Ticket) { x.ID = math.MaxUint64 }), changed(x, func(x *api.Ticket) { x.Contract = 0 }), changed(x, func(x *api.Ticket) { x.Contract = api.MaxContracts - 1 }))
		l = append(l, changed(x, func(x *api.Ticket) { x.Told = 0 }), changed(x, func(x *api.Ticket) { x.Told = 1 << 31 }), changed(x, func(x *api.Ticket) { x.Told = 1<<31 - 1 }))
	}
	return l
}

// unsound returns tickets that are beyond one bound.
func unsound() []api.Ticket {
	l := append([]api.Ticket{{}, running(0, 5, 10, 14), running(0, 5, 11, 15), running(0, 6, 10, 15), running(0, 5, 0, 15), running(0, 5, -1, 15), running(0, 5, 0, 5), running(0, -1, 10, 15), running(0, -1, 1, 0), running(0, 0, 1, 0), running(0, 5, 10, 0), running(0, 5, 10, -1)}, strangers(1)...)
	l = append(l, running(0, 5, 10, api.Horizon+1), running(0, 0, api.Horizon+1, api.Horizon+1), running(0, 0, api.Horizon+1, api.Horizon), running(0, api.Horizon, 1, api.Horizon), running(0, api.Horizon, 1, api.Horizon+1), unarmed(running(0, 5, 10, 15)))
	for _, n := range []int64{math.MaxInt64, math.MinInt64, math.MaxInt64 - 1, math.MinInt64 + 1} {
		for _, m := range []int64{1, 10, 15, api.Horizon, math.MaxInt64, math.MinInt64} {
			l = append(l, running(0, n, m, 15), running(0, m, n, 15), running(0, 5, m, n), running(0, 5, n, m), running(0, n, 10, m), running(0, m, 10, n))
		}
		l = append(l, paused(0, n, 7), paused(0, 8, n))
	}
	l = append(l, paused(0, 8, 0), paused(0, 8, -1), paused(0, 8, api.Horizon+1), paused(0, -1, 7), paused(0, api.Horizon+1, 7), in(running(0, 5, 10, 15), api.Paused), in(unarmed(running(0, 5, 10, 15)), api.Paused), changed(paused(0, 8, 7), func(x *api.Ticket) { x.Gen = 1 }), changed(paused(0, 8, 7), func(x *api.Ticket) { x.Due = -1 }))
	for _, x := range []api.Ticket{spent(1), resolved(1)} {
		for _, n := range []int64{1, -1, 15, math.MaxInt64, math.MinInt64} {
			l = append(l, changed(x, func(x *api.Ticket) { x.From = n }), changed(x, func(x *api.Ticket) { x.Left = n }), changed(x, func(x *api.Ticket) { x.Due = n }), changed(x, func(x *api.Ticket) { x.Gen = uint64(n) }))
		}
		l = append(l, in(running(1, 5, 10, 15), x.State), in(paused(1, 8, 7), x.State))
	}
	for _, x := range []api.Ticket{running(1, 5, 10, 15), paused(1, 8, 7), spent(1), resolved(1)} {
		for _, n := range []int{-1, math.MinInt, math.MaxInt} {
			l = append(l, changed(x, func(x *api.Ticket) { x.Contract = n }), changed(x, func(x *api.Ticket) { x.Level = n }), changed(x, func(x *api.Ticket) { x.Told = n }))
		}
		l = append(l, changed(x, func(x *api.Ticket) { x.Contract = api.MaxContracts }), changed(x, func(x *api.Ticket) { x.Level = api.MaxLevels }), changed(x, func(x *api.Ticket) { x.Told = 1<<31 + 1 }), changed(x, func(x *api.Ticket) { x.Gen = api.MaxIndex + 1 }), changed(x, func(x *api.Ticket) { x.Gen = math.MaxUint64 }))
	}
	return l
}

// P16.3
func TestSound(t *testing.T) {
	for _, x := range sound() {
		if !ticket.Sound(x) {
			t.Errorf("%v is not sound", x)
		}
	}
	for _, x := range unsound() {
		if ticket.Sound(x) {
			t.Errorf("%v is sound", x)
		}
	}
}

// encoded returns what Put writes.
func encoded(x api.Ticket) []byte {
	var w quill.Writer
	ticket.Put(&w, x)
	return w.Bytes()
}

// byHand returns the encoding of a ticket, written number by number.
func byHand(x api.Ticket) []byte {
	var w quill.Writer
	w.Num(x.ID)
	w.Num(uint64(x.Contract))
	w.Num(uint64(x.State))
	w.Num(uint64(x.Level))
	w.Num(x.Gen)
	w.Num(uint64(x.From))
	w.Num(uint64(x.Left))
	w.Num(uint64(x.Due))
	w.Num(uint64(x.Told))
	return w.Bytes()
}

// P16.3
func TestPut(t *testing.T) {
	x := api.Ticket{ID: 300, Contract: 2, State: api.Running, Level: 3, Gen: 4, From: 5, Left: 6, Due: 256, Told: 0}
	if got := encoded(x); !bytes.Equal(got, []byte{2, 1, 44, 1, 2, 1, 1, 1, 3, 1, 4, 1, 5, 1, 6, 2, 1, 0, 0}) {
		t.Errorf("%v: % x", x, got)
	}
	if got := encoded(spent(2)); !bytes.Equal(got, []byte{1, 77, 1, 3, 1, 3, 1, 2, 0, 0, 0, 0, 1, 40}) {
		t.Errorf("%v: % x", spent(2), got)
	}
	for _, x := range append(sound(), unsound()...) {
		if got := encoded(x); !bytes.Equal(got, byHand(x)) {
			t.Errorf("%v: % x, want % x", x, got, byHand(x))
		}
	}
	ticket.Put(nil, spent(2))
}

// P16.3: what was written is read, one after the other.
func TestRead(t *testing.T) {
	var w quill.Writer
	for _, x := range sound() {
		ticket.Put(&w, x)
	}
	w.Num(300)
	r := quill.Open(w.Bytes())
	for _, x := range sound() {
		if got, ok := ticket.Read(r); got != x || !ok || r.Bad() {
			t.Fatalf("%v: %v, %t", x, got, ok)
		}
	}
	if n := r.Num(300); n != 300 || r.End() != api.OK {
		t.Errorf("then %d, error %d", n, int(r.End()))
	}
}

// unread checks that no ticket can be read of b.
func unread(t *testing.T, b []byte) {
	t.Helper()
	r := quill.Open(b)
	if x, ok := ticket.Read(r); ok || x != (api.Ticket{}) || !r.Bad() || r.Left() != 0 || r.End() != api.ErrForm {
		t.Errorf("% x: %v, %t, Bad %t", b, x, ok, r.Bad())
	}
}

// P16.3
func TestReadOfNoTicket(t *testing.T) {
	for _, x := range unsound() {
		unread(t, encoded(x))
		unread(t, append(encoded(x), 0, 0))
	}
	for _, x := range sound() {
		b := encoded(x)
		for n := range b {
			unread(t, b[:n])
		}
	}
	// Numbers that are longer than needed, below 0, or the same as others modulo 2^32 or 2^64.
	for i := range 9 {
		for _, bad := range [][]byte{{1, 0}, {2, 0, 1}, {129, 1}, {128}, {9, 1, 0, 0, 0, 0, 0, 0, 0, 0}, {5, 1, 0, 0, 0, 1}, {8, 255, 255, 255, 255, 255, 255, 255, 255}} {
			if i == 0 && (bad[0] == 5 || bad[0] == 8) {
				continue
			}
			parts := [][]byte{{1, 77}, {1, 3}, {1, 3}, {1, 2}, {0}, {0}, {0}, {0}, {1, 40}}
			parts[i] = bad
			unread(t, slices.Concat(parts...))
		}
	}
	r := quill.Open(encoded(spent(0)))
	r.Fail()
	if x, ok := ticket.Read(r); ok || x != (api.Ticket{}) || !r.Bad() {
		t.Errorf("bad: %v, %t", x, ok)
	}
	for _, r := range []*quill.Reader{nil, {}} {
		if x, ok := ticket.Read(r); ok || x != (api.Ticket{}) {
			t.Errorf("no Reader: %v, %t", x, ok)
		}
	}
}

// anyTerms returns a contract with 1 to MaxLevels levels.
func anyTerms(random *rand.Rand) api.Contract {
	var budgets []int64
	for range 1 + random.IntN(api.MaxLevels) {
		budgets = append(budgets, 1+random.Int64N(40))
	}
	return terms(budgets...)
}

// history is what a ticket went through: the levels that were met since it was opened or reopened, and in all.
type history struct {
	met  []int
	told int
}

// happen lets something happen to a ticket, which may be an error, and returns what it is then.
func happen(t *testing.T, random *rand.Rand, x api.Ticket, k *calendar.Clock, c api.Contract, now int64, h *history) api.Ticket {
	t.Helper()
	var next api.Ticket
	var e api.Errno
	switch random.IntN(7) {
	case 0:
		next, e = ticket.Pause(x, k, now)
	case 1, 2:
		next, e = ticket.Resume(x, k, now)
	case 3:
		if random.IntN(4) > 0 {
			return x
		}
		next, e = ticket.Resolve(x)
	case 4:
		next, e = ticket.Reopen(x, k, c, now)
		if e == api.OK {
			h.met = nil
		}
	default:
		ahead, level := ticket.Ahead(x, c), 0
		next, level, e = ticket.Fire(x, k, c, now)
		if e != api.OK {
			break
		}
		h.met = append(h.met, level)
		h.told++
		// Close to Horizon a ticket may be Spent before its last level.
		if got := ticket.Ahead(next, c); level != x.Level || x.Due > now || next.State == api.Running && got != ahead-1 || next.State == api.Spent && (got != 0 || ahead > 1 && now < api.Horizon-2*api.Week) {
			t.Fatalf("Fire of %v at %d: %v, level %d, ahead were %d, are %d", x, now, next, level, ahead, got)
		}
	}
	if e != api.OK {
		if next != (api.Ticket{}) {
			t.Fatalf("%v became %v with error %d", x, next, int(e))
		}
		return x
	}
	if next.ID != x.ID || next.Contract != x.Contract || next.Gen != 0 {
		t.Fatalf("%v became %v", x, next)
	}
	return next
}

// P16.4: a ticket stays sound, and between two resolutions each level is met at most once, in ascending order.
func TestAnyLife(t *testing.T) {
	random := rand.New(rand.NewPCG(16, 4))
	for range 300 {
		k := clock(t, api.Calendar{Offset: random.Int64N(100), Week: row(0, 30, 40, 90, 500, api.Week), Closed: row(20, 60, api.Week, api.Week+100)})
		c, now, h := anyTerms(random), random.Int64N(100), &history{}
		if random.IntN(5) == 0 {
			now = api.Horizon - 200
		}
		x, e := ticket.Open(5, 2, k, c, now)
		if e != api.OK {
			t.Fatalf("Open: error %d", int(e))
		}
		gen := uint64(0)
		for range 200 {
			if x.State == api.Running {
				gen++
				x.Gen = gen
			}
			if !ticket.Sound(x) || x.Told != h.told {
				t.Fatalf("%v is not sound, or was not told %d times", x, h.told)
			}
			for i, level := range h.met {
				if level != i || i >= len(c.Levels) {
					t.Fatalf("levels %v were met", h.met)
				}
			}
			if got, ok := ticket.Read(quill.Open(encoded(x))); got != x || !ok {
				t.Fatalf("%v was read as %v, %t", x, got, ok)
			}
			now += random.Int64N(2) * random.Int64N(30)
			x = happen(t, random, x, k, c, now, h)
		}
	}
}

// P16.2, and P15.3: tickets that are fired as soon as they are due are at the steps of the plan.
func TestPlanned(t *testing.T) {
	random := rand.New(rand.NewPCG(16, 2))
	k := clock(t, api.Calendar{Offset: 7, Week: row(0, 30, 40, 90, 500, 510)})
	for range 200 {
		c, now := anyTerms(random), random.Int64N(1000)
		l, e := chain.Plan(k, c, now)
		x, why := ticket.Open(1, 0, k, c, now)
		if e != api.OK || why != api.OK {
			t.Fatalf("Plan: error %d, Open: error %d", int(e), int(why))
		}
		for i, s := range l {
			if x.State != api.Running || x.Told != i || (chain.Step{Level: x.Level, From: x.From, Left: x.Left, Due: x.Due}) != s {
				t.Fatalf("%v, want step %v", x, s)
			}
			x, _, _ = ticket.Fire(x, k, c, x.Due)
		}
		if x.State != api.Spent || x.Level != len(l)-1 {
			t.Fatalf("at last %v", x)
		}
	}
}

// P16.3: what is read as a ticket is exactly its encoding, and the ticket is sound.
func FuzzRead(f *testing.F) {
	for _, x := range append(sound(), unsound()...) {
		f.Add(encoded(x))
	}
	f.Fuzz(func(t *testing.T, b []byte) {
		r := quill.Open(b)
		x, ok := ticket.Read(r)
		if ok == r.Bad() || ok && !ticket.Sound(x) || !ok && x != (api.Ticket{}) {
			t.Fatalf("%v, %t, Bad %t", x, ok, r.Bad())
		}
		if ok && !bytes.Equal(encoded(x), b[:len(b)-r.Left()]) {
			t.Fatalf("% x was read as %v", b, x)
		}
	})
}
