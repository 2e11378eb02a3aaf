package outbox_test

import (
	"bytes"
	"math"
	"math/rand/v2"
	"slices"
	"testing"

	"curfew/api"
	"curfew/outbox"
	"curfew/quill"
)

// outside are numbers that are not instants.
var outside = []int64{-1, -2, math.MinInt64, math.MinInt64 + 1, api.Horizon + 1, 2 * api.Horizon, math.MaxInt64}

// letter returns what is put to create a notice.
func letter(retry int, wait int64) api.Notice {
	return api.Notice{Ticket: 7, Level: 1, Party: 2, Retry: retry, Wait: wait}
}

// note returns a notice of that letter.
func note(id uint64, state, tries, retry int, wait, next int64) api.Notice {
	n := letter(retry, wait)
	n.ID, n.State, n.Tries, n.Next = id, state, tries, next
	return n
}

// waiting returns a Waiting notice that was never tried.
func waiting(id uint64) api.Notice { return note(id, api.Waiting, 0, 2, 5, 10) }

// crowd returns n Waiting notices with IDs from first on.
func crowd(first uint64, n int) []api.Notice {
	var l []api.Notice
	for i := range n {
		l = append(l, waiting(first+uint64(i)))
	}
	return l
}

// of returns a state whose Last is the ID of the last of its notices.
func of(l ...api.Notice) outbox.State {
	if len(l) == 0 {
		return outbox.State{}
	}
	return outbox.State{Last: l[len(l)-1].ID, Notices: l}
}

// changed returns a state with a notice after a change.
func changed(change func(n *api.Notice)) outbox.State {
	n := note(3, api.Waiting, 1, 2, 5, 10)
	change(&n)
	return outbox.State{Last: 3, Notices: []api.Notice{waiting(1), n}}
}

// sound returns states of all kinds, with each bound.
func sound() []outbox.State {
	return []outbox.State{
		{}, {Last: 1}, {Last: 300}, {Last: api.MaxIndex}, of(waiting(1)), of(waiting(2)), {Last: 9, Notices: []api.Notice{waiting(2), waiting(9)}}, {Last: 9, Notices: []api.Notice{waiting(1), waiting(2), waiting(8)}}, of(waiting(api.MaxIndex)), of(crowd(1, api.MaxNotices)...), of(crowd(api.MaxIndex-api.MaxNotices, api.MaxNotices-1)...),
		of(note(1, api.Waiting, 0, 1, 5, 0), note(2, api.Waiting, 1, 1, 5, 0), note(3, api.Acked, 1, 1, 5, 0), note(4, api.Dead, 1, 1, 5, 0)),
		of(note(1, api.Waiting, 0, 8, 1, 7), note(2, api.Waiting, 8, 8, 1, 7), note(3, api.Acked, 1, 8, 1, 7), note(4, api.Acked, 8, 8, 1, 7), note(5, api.Dead, 8, 8, 1, 7), note(6, api.Acked, 4, 8, 1, 7)),
		changed(func(n *api.Notice) {}), changed(func(n *api.Notice) { n.Ticket = 0 }), changed(func(n *api.Notice) { n.Ticket = math.MaxUint64 }), changed(func(n *api.Notice) { n.Level = 0 }), changed(func(n *api.Notice) { n.Level = api.MaxLevels - 1 }),
		changed(func(n *api.Notice) { n.Party = 0 }), changed(func(n *api.Notice) { n.Party = api.MaxParties - 1 }), changed(func(n *api.Notice) { n.Retry = 1 }), changed(func(n *api.Notice) { n.Retry = api.MaxRetry }),
		changed(func(n *api.Notice) { n.Wait = 1 }), changed(func(n *api.Notice) { n.Wait = api.MaxBackoff }), changed(func(n *api.Notice) { n.Next = 0 }), changed(func(n *api.Notice) { n.Next = api.Horizon }),
		{Last: api.MaxIndex, Notices: slices.Concat(crowd(1, 3), []api.Notice{{ID: 1 << 40, Ticket: math.MaxUint64, Level: api.MaxLevels - 1, Party: api.MaxParties - 1, State: api.Dead, Tries: api.MaxRetry, Retry: api.MaxRetry, Wait: api.MaxBackoff, Next: api.Horizon}})},
	}
}

// unsound returns states that no box has.
func unsound() []outbox.State {
	l := []outbox.State{
		{Last: api.MaxIndex + 1}, {Last: math.MaxUint64}, of(waiting(api.MaxIndex + 1)), of(crowd(1, api.MaxNotices+1)...), of(crowd(1, 2*api.MaxNotices)...),
		// IDs that are not ascending, or not between 1 and Last.
		{Last: 5, Notices: []api.Notice{waiting(2), waiting(1)}}, {Last: 5, Notices: []api.Notice{waiting(1), waiting(1)}}, {Last: 5, Notices: []api.Notice{waiting(1), waiting(4), waiting(2)}}, {Last: 5, Notices: []api.Notice{waiting(1), waiting(4), waiting(4)}},
		{Last: 5, Notices: []api.Notice{waiting(0)}}, {Last: 5, Notices: []api.Notice{waiting(0), waiting(1)}}, {Notices: []api.Notice{waiting(0)}}, {Notices: []api.Notice{waiting(1)}}, {Last: 5, Notices: []api.Notice{waiting(6)}}, {Last: 5, Notices: []api.Notice{waiting(5), waiting(6)}}, {Last: 5, Notices: []api.Notice{waiting(math.MaxUint64)}},
		// States with other Tries.
		of(note(1, api.Acked, 0, 2, 5, 0)), of(note(1, api.Dead, 1, 2, 5, 0)), of(note(1, api.Dead, 0, 2, 5, 0)), of(note(1, api.Dead, 0, 1, 5, 0)), of(note(1, api.Dead, 7, 8, 5, 0)), of(note(1, api.Waiting, 3, 2, 5, 0)), of(note(1, api.Acked, 3, 2, 5, 0)), of(note(1, api.Dead, 3, 2, 5, 0)), of(note(1, api.Acked, 9, 8, 5, 0)),
		changed(func(n *api.Notice) { n.Level = api.MaxLevels }), changed(func(n *api.Notice) { n.Party = api.MaxParties }), changed(func(n *api.Notice) { n.State = 0 }), changed(func(n *api.Notice) { n.State = api.Dead + 1 }), changed(func(n *api.Notice) { n.Retry, n.Tries = 0, 0 }), changed(func(n *api.Notice) { n.Retry = api.MaxRetry + 1 }),
		changed(func(n *api.Notice) { n.Retry, n.Tries = 9, 9 }), changed(func(n *api.Notice) { n.Wait = 0 }), changed(func(n *api.Notice) { n.Wait = api.MaxBackoff + 1 }),
	}
	for _, x := range []int{-1, math.MinInt, math.MaxInt} {
		l = append(l, changed(func(n *api.Notice) { n.Level = x }), changed(func(n *api.Notice) { n.Party = x }), changed(func(n *api.Notice) { n.State = x }), changed(func(n *api.Notice) { n.Tries = x }), changed(func(n *api.Notice) { n.Retry = x }), changed(func(n *api.Notice) { n.Wait = int64(x) }))
	}
	for _, x := range outside {
		l = append(l, changed(func(n *api.Notice) { n.Next = x }))
	}
	return l
}

func equal(a, b outbox.State) bool {
	return a.Last == b.Last && slices.Equal(a.Notices, b.Notices)
}

// loaded returns a box that must exist.
func loaded(t testing.TB, s outbox.State) *outbox.Box {
	t.Helper()
	b, e := outbox.Load(s)
	if b == nil || e != api.OK {
		t.Fatalf("Load(%v): error %d", s, int(e))
	}
	return b
}

// wantBox compares all that a box tells without regard to time with a state.
func wantBox(t *testing.T, what string, b *outbox.Box, want outbox.State) {
	t.Helper()
	if got := b.State(); !equal(got, want) {
		t.Errorf("%s: State %v, want %v", what, got, want)
	}
	many := 0
	for _, n := range want.Notices {
		if n.State == api.Waiting {
			many++
		}
		if got, ok := b.Get(n.ID); got != n || !ok {
			t.Errorf("%s: Get(%d): %v, %t, want %v", what, n.ID, got, ok, n)
		}
	}
	if got := b.Waiting(); got != many {
		t.Errorf("%s: Waiting %d, want %d", what, got, many)
	}
}

// put makes a Put that must return an ID.
func put(t *testing.T, b *outbox.Box, n api.Notice, now int64, want uint64) {
	t.Helper()
	if id, e := b.Put(n, now); id != want || e != api.OK {
		t.Errorf("Put(%v, %d): %d, error %d, want %d", n, now, id, int(e), want)
	}
}

// unput makes a Put that must return an error and change nothing.
func unput(t *testing.T, b *outbox.Box, n api.Notice, now int64, want api.Errno) {
	t.Helper()
	before := b.State()
	if id, e := b.Put(n, now); id != 0 || e != want {
		t.Errorf("Put(%v, %d): %d, error %d, want error %d", n, now, id, int(e), int(want))
	}
	wantBox(t, "Put with an error", b, before)
}

// try makes a Try that must return a notice.
func try(t *testing.T, b *outbox.Box, id uint64, now int64, want api.Notice) {
	t.Helper()
	if n, e := b.Try(id, now); n != want || e != api.OK {
		t.Errorf("Try(%d, %d): %v, error %d, want %v", id, now, n, int(e), want)
	}
	if n, ok := b.Get(id); n != want || !ok {
		t.Errorf("Get(%d) after Try: %v, %t, want %v", id, n, ok, want)
	}
}

// untry makes a Try that must return an error and change nothing.
func untry(t *testing.T, b *outbox.Box, id uint64, now int64, want api.Errno) {
	t.Helper()
	before := b.State()
	if n, e := b.Try(id, now); n != (api.Notice{}) || e != want {
		t.Errorf("Try(%d, %d): %v, error %d, want error %d", id, now, n, int(e), int(want))
	}
	wantBox(t, "Try with an error", b, before)
}

// ack makes an Ack that must return a notice.
func ack(t *testing.T, b *outbox.Box, id uint64, want api.Notice) {
	t.Helper()
	if n, e := b.Ack(id); n != want || e != api.OK {
		t.Errorf("Ack(%d): %v, error %d, want %v", id, n, int(e), want)
	}
}

// unack makes an Ack that must return an error and change nothing.
func unack(t *testing.T, b *outbox.Box, id uint64, want api.Errno) {
	t.Helper()
	before := b.State()
	if n, e := b.Ack(id); n != (api.Notice{}) || e != want {
		t.Errorf("Ack(%d): %v, error %d, want error %d", id, n, int(e), int(want))
	}
	wantBox(t, "Ack with an error", b, before)
}

// P17.1, P17.2: the chapter's example.
func TestExample(t *testing.T) {
	b := outbox.New()
	put(t, b, letter(1, 5), 0, 1)
	try(t, b, 1, 0, note(1, api.Waiting, 1, 1, 10, 5))
	if l := b.Tick(4); len(l) != 0 {
		t.Errorf("Tick(4): %v", l)
	}
	if l := b.Tick(5); !slices.Equal(l, []uint64{1}) {
		t.Errorf("Tick(5): %v", l)
	}
	wantBox(t, "Tick(5)", b, of(note(1, api.Dead, 1, 1, 10, 5)))
}

// P17.1: example 5 of the whole.
func TestExampleOfWhole(t *testing.T) {
	b := outbox.New()
	put(t, b, letter(2, 5), 12, 1)
	untry(t, b, 1, 11, api.ErrBusy)
	try(t, b, 1, 12, note(1, api.Waiting, 1, 2, 10, 17))
	untry(t, b, 1, 16, api.ErrBusy)
	try(t, b, 1, 17, note(1, api.Waiting, 2, 2, 20, 27))
	if l := b.Tick(26); len(l) != 0 {
		t.Errorf("Tick(26): %v", l)
	}
	if l := b.Tick(27); !slices.Equal(l, []uint64{1}) {
		t.Errorf("Tick(27): %v", l)
	}
}

// P17.1: what is put, of all that a notice has.
func TestPut(t *testing.T) {
	b := outbox.New()
	wantBox(t, "new", b, outbox.State{})
	want := outbox.State{}
	for i, n := range []api.Notice{
		letter(1, 1), letter(api.MaxRetry, api.MaxBackoff), {Retry: 2, Wait: 5}, {Ticket: math.MaxUint64, Level: api.MaxLevels - 1, Party: api.MaxParties - 1, Retry: 3, Wait: 300},
		// These have what Put does not take over.
		{ID: 1, Ticket: 4, State: api.Dead, Tries: 3, Retry: 3, Wait: 9, Next: 1000}, {ID: math.MaxUint64, State: -1, Tries: -1, Retry: 1, Wait: 1, Next: -1}, letter(1, 1),
	} {
		now := []int64{0, 1, 300, api.Horizon}[i%4]
		put(t, b, n, now, uint64(i+1))
		want.Last++
		want.Notices = append(want.Notices, api.Notice{ID: want.Last, Ticket: n.Ticket, Level: n.Level, Party: n.Party, State: api.Waiting, Retry: n.Retry, Wait: n.Wait, Next: now})
		wantBox(t, "Put", b, want)
	}
	b = loaded(t, outbox.State{Last: 40, Notices: []api.Notice{waiting(3)}})
	put(t, b, letter(2, 5), 10, 41)
	wantBox(t, "Put after Load", b, outbox.State{Last: 41, Notices: []api.Notice{waiting(3), waiting(41)}})
}

// letters returns what Put rejects.
func letters() []api.Notice {
	var l []api.Notice
	for _, s := range unsound() {
		if len(s.Notices) == 2 && s.Notices[1].ID == 3 && s.Notices[1].State == api.Waiting && s.Notices[1].Next == 10 && s.Notices[1].Tries == 1 {
			l = append(l, s.Notices[1])
		}
	}
	return append(l, letter(0, 5), letter(2, 0), letter(9, 5), letter(2, api.MaxBackoff+1))
}

// P17.1: the errors of Put, of several ones the first.
func TestPutErrors(t *testing.T) {
	if n := len(letters()); n < 20 {
		t.Fatalf("only %d letters", n)
	}
	full := of(crowd(1, api.MaxNotices)...)
	last := outbox.State{Last: api.MaxIndex, Notices: full.Notices}
	for _, x := range []struct {
		s    outbox.State
		want api.Errno
	}{{outbox.State{}, api.OK}, {full, api.ErrFull}, {outbox.State{Last: api.MaxIndex}, api.ErrBig}, {last, api.ErrBig}} {
		b := loaded(t, x.s)
		for _, n := range letters() {
			unput(t, b, n, 10, api.ErrArg)
		}
		for _, now := range outside {
			unput(t, b, letter(2, 5), now, api.ErrArg)
			unput(t, b, letter(0, 5), now, api.ErrArg)
		}
		if x.want != api.OK {
			unput(t, b, letter(2, 5), 10, x.want)
			unput(t, b, letter(2, 5), api.Horizon, x.want)
		}
	}
	b := loaded(t, outbox.State{Last: api.MaxIndex - 1})
	put(t, b, letter(2, 5), 10, api.MaxIndex)
	unput(t, b, letter(2, 5), 10, api.ErrBig)
}

// P17.1: the first notice that is not Waiting makes room, and only if there is none.
func TestRoom(t *testing.T) {
	for _, first := range []int{0, 1, 50, api.MaxNotices - 2, api.MaxNotices - 1} {
		l := crowd(1, api.MaxNotices)
		l[first] = note(uint64(first+1), api.Acked, 1, 2, 5, 10)
		if first < api.MaxNotices-1 {
			l[api.MaxNotices-1] = note(api.MaxNotices, api.Dead, 2, 2, 5, 10)
		}
		b := loaded(t, of(l...))
		want := slices.Concat(l[:first], l[first+1:])
		put(t, b, letter(2, 5), 10, api.MaxNotices+1)
		want = append(want, waiting(api.MaxNotices+1))
		wantBox(t, "room", b, of(want...))
		if n, ok := b.Get(uint64(first + 1)); ok || n != (api.Notice{}) {
			t.Errorf("%v is there", n)
		}
		if first < api.MaxNotices-1 {
			put(t, b, letter(2, 5), 10, api.MaxNotices+2)
			want = append(want[:api.MaxNotices-2:api.MaxNotices-2], waiting(api.MaxNotices+1), waiting(api.MaxNotices+2))
			wantBox(t, "room again", b, of(want...))
		}
		unput(t, b, letter(2, 5), 10, api.ErrFull)
	}
	l := crowd(1, api.MaxNotices-1)
	l[0] = note(1, api.Dead, 2, 2, 5, 10)
	b := loaded(t, of(l...))
	put(t, b, letter(2, 5), 10, api.MaxNotices)
	wantBox(t, "room is left", b, of(append(l, waiting(api.MaxNotices))...))
	put(t, b, letter(2, 5), 10, api.MaxNotices+1)
	wantBox(t, "none is left", b, of(crowd(2, api.MaxNotices)...))
	// A notice that is not Waiting any more makes room as well.
	if _, e := b.Try(40, 10); e != api.OK {
		t.Errorf("Try: error %d", int(e))
	}
	unput(t, b, letter(2, 5), 10, api.ErrFull)
	if _, e := b.Ack(40); e != api.OK {
		t.Errorf("Ack: error %d", int(e))
	}
	put(t, b, letter(2, 5), 10, api.MaxNotices+2)
	unack(t, b, 40, api.ErrNone)
	untry(t, b, 40, 10, api.ErrNone)
}

// P17.1
func TestTry(t *testing.T) {
	for _, x := range []struct {
		wait, now, next, doubled int64
	}{
		{1, 10, 11, 2}, {5, 10, 15, 10}, {5, 100, 105, 10}, {api.MaxBackoff / 2, 10, api.MaxBackoff/2 + 10, api.MaxBackoff}, {api.MaxBackoff/2 - 1, 10, api.MaxBackoff/2 + 9, api.MaxBackoff - 2}, {api.MaxBackoff/2 + 1, 10, api.MaxBackoff/2 + 11, api.MaxBackoff},
		{api.MaxBackoff - 1, 10, api.MaxBackoff + 9, api.MaxBackoff}, {api.MaxBackoff, 10, api.MaxBackoff + 10, api.MaxBackoff},
		{5, api.Horizon - 6, api.Horizon - 1, 10}, {5, api.Horizon - 5, api.Horizon, 10}, {5, api.Horizon - 4, api.Horizon, 10}, {5, api.Horizon, api.Horizon, 10}, {api.MaxBackoff, api.Horizon - 1, api.Horizon, api.MaxBackoff},
		// Also times that are not instants are reached.
		{5, api.Horizon + 1, api.Horizon, 10}, {5, math.MaxInt64, api.Horizon, 10}, {api.MaxBackoff, math.MaxInt64 - 1, api.Horizon, api.MaxBackoff},
	} {
		b := loaded(t, of(waiting(2), note(5, api.Waiting, 0, 2, x.wait, 10), waiting(6)))
		for _, id := range []uint64{0, 1, 3, 4, 7, math.MaxUint64} {
			untry(t, b, id, x.now, api.ErrNone)
		}
		for _, now := range []int64{9, 0, -1, math.MinInt64} {
			untry(t, b, 5, now, api.ErrBusy)
		}
		once := note(5, api.Waiting, 1, 2, x.doubled, x.next)
		try(t, b, 5, x.now, once)
		wantBox(t, "Try", b, of(waiting(2), once, waiting(6)))
		untry(t, b, 5, x.next-1, api.ErrBusy)
		try(t, b, 5, x.next, note(5, api.Waiting, 2, 2, min(2*x.doubled, api.MaxBackoff), min(x.next+x.doubled, api.Horizon)))
		// Which State it has stands before its Next.
		for _, now := range []int64{x.next, math.MaxInt64, 0, math.MinInt64} {
			untry(t, b, 5, now, api.ErrState)
		}
	}
	b := loaded(t, of(note(1, api.Acked, 1, 2, 5, 10), note(2, api.Dead, 2, 2, 5, 10), note(3, api.Waiting, 8, 8, 5, 10), note(4, api.Acked, 8, 8, 5, 10), note(5, api.Waiting, 7, 8, 5, 0)))
	for id := range uint64(4) {
		untry(t, b, id+1, 10, api.ErrState)
		untry(t, b, id+1, 9, api.ErrState)
	}
	untry(t, b, 5, -1, api.ErrBusy)
	try(t, b, 5, 0, note(5, api.Waiting, 8, 8, 10, 5))
}

// P17.1
func TestAck(t *testing.T) {
	l := []api.Notice{waiting(2), note(3, api.Waiting, 1, 2, 5, 10), note(5, api.Waiting, 2, 2, 5, 10), note(6, api.Acked, 1, 2, 5, 10), note(7, api.Dead, 2, 2, 5, 10), note(9, api.Waiting, 1, 8, 5, api.Horizon)}
	b := loaded(t, of(l...))
	for _, id := range []uint64{0, 1, 4, 8, 10, math.MaxUint64} {
		unack(t, b, id, api.ErrNone)
	}
	for _, id := range []uint64{2, 6, 7} {
		unack(t, b, id, api.ErrState)
	}
	for _, i := range []int{1, 2, 5} {
		l[i].State = api.Acked
		ack(t, b, l[i].ID, l[i])
		wantBox(t, "Ack", b, of(l...))
		unack(t, b, l[i].ID, api.ErrState)
		untry(t, b, l[i].ID, api.Horizon, api.ErrState)
	}
	if dead := b.Tick(math.MaxInt64); len(dead) != 0 {
		t.Errorf("Tick: %v", dead)
	}
	wantBox(t, "Tick", b, of(l...))
}

// P17.2: what is due and what dies, just before its Next and from then on.
func TestDueAndTick(t *testing.T) {
	l := []api.Notice{
		note(1, api.Waiting, 0, 1, 5, 10), note(2, api.Waiting, 1, 1, 5, 10), note(3, api.Acked, 1, 2, 5, 0), note(4, api.Dead, 1, 1, 5, 0), note(5, api.Waiting, 7, 8, 5, 10), note(6, api.Waiting, 8, 8, 5, 10),
		note(7, api.Waiting, 1, 2, 5, 9), note(8, api.Waiting, 2, 2, 5, 9), note(9, api.Waiting, 0, 2, 5, api.Horizon), note(10, api.Waiting, 2, 2, 5, api.Horizon), note(11, api.Acked, 2, 2, 5, 0), note(12, api.Waiting, 0, 2, 5, 0),
	}
	for _, x := range []struct {
		now       int64
		due, dead []int
	}{
		{math.MinInt64, nil, nil}, {-1, nil, nil}, {0, []int{12}, nil}, {8, []int{12}, nil}, {9, []int{7, 12}, []int{8}}, {10, []int{1, 5, 7, 12}, []int{2, 6, 8}}, {11, []int{1, 5, 7, 12}, []int{2, 6, 8}}, {api.Horizon - 1, []int{1, 5, 7, 12}, []int{2, 6, 8}},
		{api.Horizon, []int{1, 5, 7, 9, 12}, []int{2, 6, 8, 10}}, {math.MaxInt64, []int{1, 5, 7, 9, 12}, []int{2, 6, 8, 10}},
	} {
		b := loaded(t, of(l...))
		var due []api.Notice
		for _, id := range x.due {
			due = append(due, l[id-1])
		}
		want, ids := slices.Clone(l), []uint64(nil)
		for _, id := range x.dead {
			want[id-1].State = api.Dead
			ids = append(ids, uint64(id))
		}
		if got := b.Due(x.now); !slices.Equal(got, due) {
			t.Errorf("Due(%d): %v, want %v", x.now, got, due)
		}
		wantBox(t, "Due", b, of(l...))
		if got := b.Tick(x.now); !slices.Equal(got, ids) {
			t.Errorf("Tick(%d): %v, want %v", x.now, got, ids)
		}
		wantBox(t, "Tick", b, of(want...))
		if got := b.Tick(x.now); len(got) != 0 {
			t.Errorf("Tick(%d) again: %v", x.now, got)
		}
		if got := b.Due(x.now); !slices.Equal(got, due) {
			t.Errorf("Due(%d) after Tick: %v, want %v", x.now, got, due)
		}
	}
}

// P17.2: what is not there.
func TestGet(t *testing.T) {
	b := loaded(t, outbox.State{Last: 9, Notices: []api.Notice{waiting(2), waiting(5)}})
	for _, id := range []uint64{0, 1, 3, 4, 6, 9, 10, math.MaxUint64} {
		if n, ok := b.Get(id); ok || n != (api.Notice{}) {
			t.Errorf("Get(%d): %v, %t", id, n, ok)
		}
	}
}

// P17.1, P17.2, general rule 1
func TestNotCreated(t *testing.T) {
	for _, b := range []*outbox.Box{nil, {}} {
		for _, now := range []int64{0, 5, -1, math.MaxInt64} {
			for _, n := range []api.Notice{letter(1, 5), {}} {
				if id, e := b.Put(n, now); id != 0 || e != api.ErrNil {
					t.Errorf("Put: %d, error %d", id, int(e))
				}
			}
			if n, e := b.Try(0, now); n != (api.Notice{}) || e != api.ErrNil {
				t.Errorf("Try: %v, error %d", n, int(e))
			}
			if l := b.Tick(now); l != nil {
				t.Errorf("Tick: %v", l)
			}
			if l := b.Due(now); l != nil {
				t.Errorf("Due: %v", l)
			}
		}
		if n, e := b.Ack(0); n != (api.Notice{}) || e != api.ErrNil {
			t.Errorf("Ack: %v, error %d", n, int(e))
		}
		if n, ok := b.Get(0); ok || n != (api.Notice{}) {
			t.Errorf("Get: %v, %t", n, ok)
		}
		if n := b.Waiting(); n != 0 {
			t.Errorf("Waiting: %d", n)
		}
		if s := b.State(); s.Last != 0 || s.Notices != nil {
			t.Errorf("State: %v", s)
		}
		c := b.Clone()
		if (c == nil) != (b == nil) || c != nil && c == b {
			t.Errorf("Clone of %p: %p", b, c)
		}
		if _, e := c.Put(letter(1, 5), 0); e != api.ErrNil {
			t.Errorf("Put into a clone: error %d", int(e))
		}
	}
}

// P17.2, P17.3, general rule 4: neither arguments nor results nor clones are memory of the box.
func TestApart(t *testing.T) {
	l := append(crowd(1, 3), note(4, api.Waiting, 1, 1, 5, 10))
	given := outbox.State{Last: 4, Notices: slices.Grow(slices.Clone(l), 9)}
	b := loaded(t, given)
	spoil := func(l []api.Notice) {
		for i := range l {
			l[i] = api.Notice{ID: 77}
		}
		_ = append(l, api.Notice{ID: 78})
	}
	put(t, b, letter(2, 5), 10, 5)
	if !slices.Equal(given.Notices, l) || given.Notices[:5][4] != (api.Notice{}) {
		t.Errorf("Put changed what was loaded to %v", given.Notices[:5])
	}
	spoil(given.Notices)
	want := of(append(slices.Clone(l), waiting(5))...)
	wantBox(t, "after a write to what was loaded", b, want)
	spoil(b.State().Notices)
	spoil(b.Due(10))
	wantBox(t, "after a write to results", b, want)

	state, due, c := b.State(), b.Due(10), b.Clone()
	try(t, b, 1, 10, note(1, api.Waiting, 1, 2, 10, 15))
	ack(t, b, 1, note(1, api.Acked, 1, 2, 10, 15))
	dead := b.Tick(10)
	put(t, b, letter(2, 5), 10, 6)
	if !equal(state, want) || !slices.Equal(due, []api.Notice{waiting(1), waiting(2), waiting(3), waiting(5)}) {
		t.Errorf("results became %v and %v", state, due)
	}
	wantBox(t, "a clone", c, want)
	after := b.State()
	for i := range dead {
		dead[i] = 3
	}
	try(t, c, 2, 10, note(2, api.Waiting, 1, 2, 10, 15))
	put(t, c, letter(3, 5), 10, 6)
	c.Tick(api.Horizon)
	wantBox(t, "after calls of a clone", b, after)
}

// P17.3
func TestSoundAndLoad(t *testing.T) {
	for _, s := range sound() {
		if !outbox.Sound(s) {
			t.Errorf("%v is not sound", s)
		}
		wantBox(t, "Load", loaded(t, s), s)
	}
	for _, s := range unsound() {
		if outbox.Sound(s) {
			t.Errorf("%v is sound", s)
		}
		if b, e := outbox.Load(s); b != nil || e != api.ErrArg {
			t.Errorf("Load(%v): %v, error %d", s, b, int(e))
		}
	}
	if s := (outbox.State{Notices: []api.Notice{}}); !outbox.Sound(s) {
		t.Error("an empty list is not sound")
	}
}

// P17.3
func TestSame(t *testing.T) {
	all := append(sound(), unsound()...)
	for i, a := range all {
		for k, b := range all {
			if got := outbox.Same(a, b); got != equal(a, b) || i == k && !got {
				t.Errorf("Same(%v, %v): %t", a, b, got)
			}
		}
	}
	plain := of(note(2, api.Waiting, 1, 2, 5, 10))
	for i, change := range []func(n *api.Notice){
		func(n *api.Notice) { n.ID++ }, func(n *api.Notice) { n.Ticket++ }, func(n *api.Notice) { n.Level++ }, func(n *api.Notice) { n.Party++ }, func(n *api.Notice) { n.State++ },
		func(n *api.Notice) { n.Tries++ }, func(n *api.Notice) { n.Retry++ }, func(n *api.Notice) { n.Wait++ }, func(n *api.Notice) { n.Next++ },
	} {
		other := outbox.State{Last: 2, Notices: slices.Clone(plain.Notices)}
		if !outbox.Same(plain, other) {
			t.Errorf("%v is not the same as itself", plain)
		}
		change(&other.Notices[0])
		if outbox.Same(plain, other) || outbox.Same(other, plain) {
			t.Errorf("the same after change %d", i)
		}
	}
	if !outbox.Same(outbox.State{Notices: []api.Notice{}}, outbox.State{}) {
		t.Error("an empty list is not the same as none")
	}
}

// encoded returns the encoding of a state.
func encoded(s outbox.State) []byte {
	var w quill.Writer
	outbox.Put(&w, s)
	return w.Bytes()
}

// byHand returns the encoding of a state, as the chapter says.
func byHand(s outbox.State) []byte {
	var w quill.Writer
	w.Num(s.Last)
	w.Num(uint64(len(s.Notices)))
	for _, n := range s.Notices {
		w.Num(n.ID)
		w.Num(n.Ticket)
		w.Num(uint64(n.Level))
		w.Num(uint64(n.Party))
		w.Num(uint64(n.State))
		w.Num(uint64(n.Tries))
		w.Num(uint64(n.Retry))
		w.Num(uint64(n.Wait))
		w.Num(uint64(n.Next))
	}
	return w.Bytes()
}

// P17.3: bytes written by hand, and those of the chapter's words.
func TestEncoding(t *testing.T) {
	for _, x := range []struct {
		s    outbox.State
		want []byte
	}{
		{outbox.State{}, []byte{0, 0}}, {outbox.State{Last: 300}, []byte{2, 1, 44, 0}}, {outbox.State{Last: api.MaxIndex}, []byte{8, 16, 0, 0, 0, 0, 0, 0, 0, 0}},
		{outbox.State{Last: 9, Notices: []api.Notice{{ID: 1, Ticket: 300, Level: 2, Party: 3, State: 3, Tries: 4, Retry: 4, Wait: 7, Next: 301}, waiting(8)}}, []byte{1, 9, 1, 2, 1, 1, 2, 1, 44, 1, 2, 1, 3, 1, 3, 1, 4, 1, 4, 1, 7, 2, 1, 45, 1, 8, 1, 7, 1, 1, 1, 2, 1, 1, 0, 1, 2, 1, 5, 1, 10}},
	} {
		if got := encoded(x.s); !bytes.Equal(got, x.want) {
			t.Errorf("%v: %v, want %v", x.s, got, x.want)
		}
	}
	for _, s := range append(sound(), unsound()...) {
		if got, want := encoded(s), byHand(s); !bytes.Equal(got, want) {
			t.Errorf("%v: %v, want %v", s, got, want)
		}
	}
	outbox.Put(nil, of(waiting(1)))
}

// wantUnread reads bytes that must make the Reader bad.
func wantUnread(t *testing.T, b []byte) {
	t.Helper()
	r := quill.Open(b)
	if s, ok := outbox.Read(r); ok || s.Last != 0 || s.Notices != nil || !r.Bad() {
		t.Errorf("%v: %v, %t, Bad %t", b, s, ok, r.Bad())
	}
}

// P17.3: what was written is read, behind other things and before them.
func TestRead(t *testing.T) {
	for _, s := range sound() {
		var w quill.Writer
		w.Num(9)
		outbox.Put(&w, s)
		w.Num(300)
		r := quill.Open(w.Bytes())
		r.Num(9)
		if got, ok := outbox.Read(r); !equal(got, s) || !ok {
			t.Errorf("%v: %v, %t", s, got, ok)
		}
		if n := r.Num(300); n != 300 || r.End() != api.OK {
			t.Errorf("%v: then %d", s, n)
		}
		b := encoded(s)
		for i := range min(len(b), 60) {
			wantUnread(t, b[:i])
			wantUnread(t, b[:len(b)-1-i])
		}
	}
	for _, s := range unsound() {
		wantUnread(t, encoded(s))
		wantUnread(t, append(encoded(s), 0, 0))
	}
	// Numbers that are longer than needed, below 0, or the same as others modulo 2^32 or 2^64.
	for i := range 11 {
		for _, bad := range [][]byte{{1, 0}, {2, 0, 1}, {129, 1}, {128}, {9, 1, 0, 0, 0, 0, 0, 0, 0, 0}, {5, 1, 0, 0, 0, 1}, {8, 255, 255, 255, 255, 255, 255, 255, 255}} {
			// There may be such a Last, Ticket and Next.
			if bad[0] == 5 && (i == 0 || i == 3 || i == 10) || bad[0] == 8 && i == 3 {
				continue
			}
			parts := [][]byte{{1, 1}, {1, 1}, {1, 1}, {1, 7}, {1, 1}, {1, 2}, {1, 1}, {1, 1}, {1, 1}, {1, 5}, {1, 1}}
			parts[i] = bad
			wantUnread(t, slices.Concat(parts...))
		}
	}
	wantUnread(t, nil)
	for _, r := range []*quill.Reader{nil, {}} {
		if s, ok := outbox.Read(r); ok || !equal(s, outbox.State{}) {
			t.Errorf("no Reader: %v, %t", s, ok)
		}
	}
	bad := quill.Open([]byte{0, 0})
	bad.Fail()
	if s, ok := outbox.Read(bad); ok || !equal(s, outbox.State{}) {
		t.Errorf("a bad Reader: %v, %t", s, ok)
	}
}

// model is a box as a map, and what happened to each notice that ever was in it.
type model struct {
	last  uint64
	there map[uint64]api.Notice
	tries map[uint64]int
	ended map[uint64]int
}

func newModel(s outbox.State) *model {
	m := &model{last: s.Last, there: map[uint64]api.Notice{}, tries: map[uint64]int{}, ended: map[uint64]int{}}
	for _, n := range s.Notices {
		m.there[n.ID], m.tries[n.ID], m.ended[n.ID] = n, n.Tries, n.State
	}
	return m
}

// state returns what the model has, by a look at each ID that may be there.
func (m *model) state() outbox.State {
	s := outbox.State{Last: m.last}
	for id := range m.last + 1 {
		if n, ok := m.there[id]; ok {
			s.Notices = append(s.Notices, n)
		}
	}
	return s
}

func (m *model) put(n api.Notice, now int64) (uint64, api.Errno) {
	many, first := 0, uint64(0)
	for _, x := range m.state().Notices {
		if x.State == api.Waiting {
			many++
		} else if first == 0 {
			first = x.ID
		}
	}
	if many == api.MaxNotices {
		return 0, api.ErrFull
	}
	if len(m.there) == api.MaxNotices {
		delete(m.there, first)
	}
	m.last++
	n.ID, n.State, n.Tries, n.Next = m.last, api.Waiting, 0, now
	m.there[n.ID], m.ended[n.ID] = n, api.Waiting
	return n.ID, api.OK
}

func (m *model) try(id uint64, now int64) (api.Notice, api.Errno) {
	n, ok := m.there[id]
	if !ok {
		return n, api.ErrNone
	}
	if n.State != api.Waiting || n.Tries == n.Retry {
		return api.Notice{}, api.ErrState
	}
	if now < n.Next {
		return api.Notice{}, api.ErrBusy
	}
	n.Tries++
	n.Next = now + n.Wait
	if n.Next > api.Horizon {
		n.Next = api.Horizon
	}
	n.Wait += n.Wait
	if n.Wait > api.MaxBackoff {
		n.Wait = api.MaxBackoff
	}
	m.there[id] = n
	m.tries[id]++
	return n, api.OK
}

func (m *model) ack(id uint64) (api.Notice, api.Errno) {
	n, ok := m.there[id]
	if !ok {
		return n, api.ErrNone
	}
	if n.State != api.Waiting || n.Tries == 0 {
		return api.Notice{}, api.ErrState
	}
	n.State = api.Acked
	m.there[id], m.ended[id] = n, api.Acked
	return n, api.OK
}

func (m *model) tick(now int64) []uint64 {
	var dead []uint64
	for _, n := range m.state().Notices {
		if n.State == api.Waiting && n.Tries == n.Retry && n.Next <= now {
			n.State = api.Dead
			m.there[n.ID], m.ended[n.ID] = n, api.Dead
			dead = append(dead, n.ID)
		}
	}
	return dead
}

func (m *model) due(now int64) []api.Notice {
	var due []api.Notice
	for _, n := range m.state().Notices {
		if n.State == api.Waiting && n.Tries < n.Retry && n.Next <= now {
			due = append(due, n)
		}
	}
	return due
}

// makeCall makes one call of the box and of the model, and compares the results.
func makeCall(t *testing.T, random *rand.Rand, b *outbox.Box, m *model, now int64) {
	t.Helper()
	id := m.last - min(m.last, random.Uint64N(180))
	switch random.IntN(12) {
	case 0, 1, 2:
		n := api.Notice{Ticket: random.Uint64(), Level: random.IntN(api.MaxLevels), Party: random.IntN(api.MaxParties), Retry: 1 + random.IntN(3), Wait: 1 + random.Int64N(1<<random.IntN(21))}
		want, why := m.put(n, now)
		if got, e := b.Put(n, now); got != want || e != why {
			t.Fatalf("Put(%v, %d): %d, error %d, want %d, error %d", n, now, got, int(e), want, int(why))
		}
	case 3, 4:
		want, why := m.ack(id)
		if got, e := b.Ack(id); got != want || e != why {
			t.Fatalf("Ack(%d): %v, error %d, want %v, error %d", id, got, int(e), want, int(why))
		}
	case 5:
		want := m.tick(now)
		if got := b.Tick(now); !slices.Equal(got, want) {
			t.Fatalf("Tick(%d): %v, want %v", now, got, want)
		}
	case 6:
		want := m.due(now)
		if got := b.Due(now); !slices.Equal(got, want) {
			t.Fatalf("Due(%d): %v, want %v", now, got, want)
		}
	default:
		want, why := m.try(id, now)
		if got, e := b.Try(id, now); got != want || e != why {
			t.Fatalf("Try(%d, %d): %v, error %d, want %v, error %d", id, now, got, int(e), want, int(why))
		}
	}
}

// wantOnce checks that what a box tells about each notice is what happened to it.
func wantOnce(t *testing.T, b *outbox.Box, m *model) {
	t.Helper()
	for id := range m.last + 2 {
		n, ok := b.Get(id)
		if ok && (n.Tries != m.tries[id] || n.Tries > n.Retry || n.State != m.ended[id]) {
			t.Fatalf("%v was tried %d times and became %d", n, m.tries[id], m.ended[id])
		}
	}
}

// P17.1, P17.2, P17.4: any calls, compared with a model; in between the box is cloned, or loaded, also from bytes.
func TestAnyCalls(t *testing.T) {
	random := rand.New(rand.NewPCG(17, 1))
	for range 60 {
		start := of(crowd(1, random.IntN(api.MaxNotices+1))...)
		b, m, now := loaded(t, start), newModel(start), random.Int64N(100)
		if random.IntN(4) == 0 {
			now = api.Horizon - 1000
		}
		pace := int64(1) << random.IntN(20)
		for range 800 {
			now = min(now+random.Int64N(pace), api.Horizon)
			makeCall(t, random, b, m, now)
			switch random.IntN(50) {
			case 0:
				b = b.Clone()
			case 1:
				b = loaded(t, b.State())
			case 2:
				s, _ := outbox.Read(quill.Open(encoded(b.State())))
				b = loaded(t, s)
			case 3:
				wantBox(t, "any calls", b, m.state())
				wantOnce(t, b, m)
				if !outbox.Sound(b.State()) {
					t.Fatalf("State %v is not sound", b.State())
				}
			}
			if t.Failed() {
				return
			}
		}
	}
}

// P17.4: whatever is called, a notice is tried Retry times at most, and is Acked or Dead for ever.
func TestForEver(t *testing.T) {
	for retry := 1; retry <= api.MaxRetry; retry++ {
		for acked := range retry + 2 {
			b := outbox.New()
			put(t, b, letter(retry, 5), 0, 1)
			tries, now, end := 0, int64(0), api.Waiting
			for range 40 {
				now += 1000
				if _, e := b.Try(1, now); e == api.OK {
					tries++
				}
				if tries == acked {
					if _, e := b.Ack(1); e == api.OK {
						end = api.Acked
					}
				}
				if l := b.Tick(now + 1000); len(l) > 0 {
					if end != api.Waiting || tries != retry {
						t.Errorf("Retry %d: dead after %d tries and State %d", retry, tries, end)
					}
					end = api.Dead
				}
			}
			want, state := acked, api.Acked
			if acked == 0 || acked > retry {
				want, state = retry, api.Dead
			}
			if n, _ := b.Get(1); tries != want || end != state || n.Tries != want || n.State != state || b.Waiting() != 0 {
				t.Errorf("Retry %d: %v after %d tries, which ended as %d, want %d and %d", retry, n, tries, end, want, state)
			}
			untry(t, b, 1, api.Horizon, api.ErrState)
			unack(t, b, 1, api.ErrState)
			put(t, b, letter(1, 5), now, 2)
		}
	}
}

// P17.3: what is read as a state is exactly its encoding, and the state is sound.
func FuzzRead(f *testing.F) {
	for _, s := range append(sound(), unsound()...) {
		if len(s.Notices) < 10 {
			f.Add(encoded(s))
		}
	}
	f.Fuzz(func(t *testing.T, b []byte) {
		r := quill.Open(b)
		s, ok := outbox.Read(r)
		if ok == r.Bad() || ok && !outbox.Sound(s) || !ok && !equal(s, outbox.State{}) {
			t.Fatalf("%v, %t, Bad %t", s, ok, r.Bad())
		}
		if !ok {
			return
		}
		if own := encoded(s); !bytes.Equal(own, b[:len(b)-r.Left()]) {
			t.Fatalf("%v was read as %v, whose encoding is %v", b, s, own)
		}
		box := loaded(t, s)
		wantBox(t, "loaded", box, s)
		for _, n := range box.Due(api.Horizon) {
			if _, e := box.Try(n.ID, api.Horizon); e != api.OK {
				t.Fatalf("Try of %v: error %d", n, int(e))
			}
		}
		box.Tick(api.Horizon)
		if !outbox.Sound(box.State()) {
			t.Fatalf("%v became %v", s, box.State())
		}
	})
}
