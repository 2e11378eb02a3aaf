package sla_test

import (
	"bytes"
	"math"
	"slices"
	"testing"

	"curfew/api"
	"curfew/contract"
	"curfew/deadline"
	"curfew/outbox"
	"curfew/session"
	"curfew/sla"
	"curfew/slots"
)

// loaded returns a machine that must exist.
func loaded(t testing.TB, p sla.Parts) *sla.Machine {
	t.Helper()
	m, e := sla.Load(p)
	if m == nil || e != api.OK {
		t.Fatalf("Load(%v): error %d", p, int(e))
	}
	return m
}

// unloaded loads a state that no machine has.
func unloaded(t *testing.T, what string, p sla.Parts) {
	t.Helper()
	if m, e := sla.Load(p); m != nil || e != api.ErrArg {
		t.Errorf("Load of %s: %v, error %d", what, m, int(e))
	}
}

// busy returns a machine at 12 whose tickets 1 to 5 are Running, Running, Paused, Spent and Resolved.
func busy(t testing.TB) *sla.Machine {
	t.Helper()
	m := base(t)
	all(t, m, by(1, 1, open(1, 0)), open(2, 3), open(3, 0), open(4, 1), open(5, 0), tick(7), with(api.CmdPause, 3), with(api.CmdResolve, 5), tick(15))
	all(t, m, with(api.CmdTry, 1), with(api.CmdTry, 2), with(api.CmdAcked, 2), by(3, 9, noop), tick(20))
	for i, state := range []int{api.Running, api.Running, api.Paused, api.Spent, api.Resolved} {
		if x, ok := m.Ticket(uint64(i + 1)); !ok || x.State != state {
			t.Fatalf("ticket %v", x)
		}
	}
	return m
}

// changed returns the state of a busy machine after a change.
func changed(t testing.TB, change func(p *sla.Parts)) sla.Parts {
	t.Helper()
	p := busy(t).Parts()
	change(&p)
	return p
}

// P21.4: what a machine tells, and the state that it has.
func TestParts(t *testing.T) {
	m := busy(t)
	p := m.Parts()
	if p.Index != m.Index() || p.Deadlines.Now != 20 || m.Time() != 20 || len(p.Tickets) != 5 || len(p.Deadlines.Armed) != 2 || len(p.Box.Notices) != 3 {
		t.Errorf("Parts: %v", p)
	}
	for _, x := range p.Tickets {
		wantTicket(t, m, x)
	}
	for _, x := range p.Box.Notices {
		wantNotice(t, m, x)
	}
	if m.Last(1) != p.Sessions.Last(1) || m.Last(1) != 1 || m.Last(3) != 9 || m.Last(0) != 0 || m.Last(2) != 0 || m.Last(api.MaxClients+1) != 0 {
		t.Errorf("Last: %d, %d", m.Last(1), m.Last(3))
	}
	box, _ := outbox.Load(p.Box)
	if l := m.Due(); len(l) != 2 || !slices.Equal(l, box.Due(20)) {
		t.Errorf("Due: %v", l)
	}
	if c, ok := p.Shelf.Terms(3); !ok || !contract.Same(c, contracts()[3]) {
		t.Errorf("contract 3: %v, %t", c, ok)
	}
}

// P21.4: Load undoes Parts.
func TestLoad(t *testing.T) {
	many := base(t)
	for id := range uint64(api.MaxTickets) {
		all(t, many, open(1000-id, 0))
	}
	full := filled(t)
	all(t, full, tick(10))
	for _, m := range []*sla.Machine{sla.New(), base(t), busy(t), many, full} {
		p := m.Parts()
		if !slices.IsSortedFunc(p.Tickets, func(a, b api.Ticket) int {
			if a.ID < b.ID {
				return -1
			}
			return 1
		}) {
			t.Errorf("tickets %v", p.Tickets)
		}
		if got := loaded(t, p).Parts(); !same(got, p) {
			t.Errorf("Parts %v, want %v", got, p)
		}
	}
}

// P21.4: states up to the limits.
func TestLoadLimits(t *testing.T) {
	const most = api.MaxIndex / 2
	for i, change := range []func(p *sla.Parts, n uint64){
		func(p *sla.Parts, n uint64) { p.Index = n },
		func(p *sla.Parts, n uint64) { p.Deadlines.Last = n },
		func(p *sla.Parts, n uint64) { p.Box.Last = n },
		func(p *sla.Parts, n uint64) { p.Index, p.Deadlines.Last, p.Box.Last = n, n, n },
	} {
		p := changed(t, func(p *sla.Parts) { change(p, most) })
		m := loaded(t, p)
		if got := m.Parts(); !same(got, p) {
			t.Errorf("limit %d: Parts %v, want %v", i, got, p)
		}
		// It goes on beyond them.
		all(t, m, open(9, 0), tick(50))
		for _, n := range []uint64{most + 1, api.MaxIndex, api.MaxIndex + 1, math.MaxUint64} {
			unloaded(t, "a limit", changed(t, func(p *sla.Parts) { change(p, n) }))
		}
	}
	p := changed(t, func(p *sla.Parts) { p.Index = 0 })
	if m := loaded(t, p); m.Index() != 0 || m.Apply(entry(t, noop)).Index != 1 {
		t.Errorf("Index %d", m.Index())
	}
}

// P21.4: what was not created.
func TestLoadNotCreated(t *testing.T) {
	unloaded(t, "nothing", sla.Parts{})
	for _, s := range []*contract.Shelf{nil, {}} {
		unloaded(t, "no shelf", sla.Parts{Shelf: s, Sessions: session.Empty()})
		unloaded(t, "no shelf", changed(t, func(p *sla.Parts) { p.Shelf = s }))
	}
	for _, s := range []*session.Table{nil, {}} {
		unloaded(t, "no sessions", sla.Parts{Shelf: contract.New(), Sessions: s})
		unloaded(t, "no sessions", changed(t, func(p *sla.Parts) { p.Sessions = s }))
	}
	if m := loaded(t, sla.Parts{Shelf: contract.New(), Sessions: session.Empty()}); !same(m.Parts(), sla.New().Parts()) {
		t.Errorf("Parts %v", m.Parts())
	}
}

// P21.4: the number and the order of the tickets.
func TestLoadTickets(t *testing.T) {
	unloaded(t, "tickets in another order", changed(t, func(p *sla.Parts) { p.Tickets[3], p.Tickets[4] = p.Tickets[4], p.Tickets[3] }))
	unloaded(t, "tickets in another order", changed(t, func(p *sla.Parts) { p.Tickets[0], p.Tickets[1] = p.Tickets[1], p.Tickets[0] }))
	unloaded(t, "tickets in another order", changed(t, func(p *sla.Parts) { slices.Reverse(p.Tickets) }))
	unloaded(t, "a ticket twice", changed(t, func(p *sla.Parts) { p.Tickets = append(p.Tickets, p.Tickets[4]) }))
	unloaded(t, "an ID twice", changed(t, func(p *sla.Parts) { p.Tickets[4].ID = 4 }))
	unloaded(t, "an ID twice", changed(t, func(p *sla.Parts) { p.Tickets[3].ID = 5 }))
	many := func(n int) sla.Parts {
		p := sla.New().Parts()
		p.Shelf = base(t).Parts().Shelf
		for i := range n {
			p.Tickets = append(p.Tickets, api.Ticket{ID: uint64(i), State: api.Resolved})
		}
		return p
	}
	if m := loaded(t, many(api.MaxTickets)); len(m.Parts().Tickets) != api.MaxTickets {
		t.Errorf("tickets %v", m.Parts().Tickets)
	}
	unloaded(t, "too many tickets", many(api.MaxTickets+1))
	unloaded(t, "too many tickets", many(1000))
}

// P21.4: tickets that are not sound, or do not fit their contract.
func TestLoadUnsoundTickets(t *testing.T) {
	for i := range 5 {
		for what, change := range map[string]func(x *api.Ticket){
			"no such contract":   func(x *api.Ticket) { x.Contract = 6 },
			"contract -1":        func(x *api.Ticket) { x.Contract = -1 },
			"contract 16":        func(x *api.Ticket) { x.Contract = api.MaxContracts },
			"another contract":   func(x *api.Ticket) { x.Contract, x.Level = 1, 1 },
			"level -1":           func(x *api.Ticket) { x.Level = -1 },
			"level 6":            func(x *api.Ticket) { x.Level = api.MaxLevels },
			"state 0":            func(x *api.Ticket) { x.State = 0 },
			"state 5":            func(x *api.Ticket) { x.State = api.Resolved + 1 },
			"told -1":            func(x *api.Ticket) { x.Told = -1 },
			"told too often":     func(x *api.Ticket) { x.Told = 1<<31 + 1 },
			"another gen":        func(x *api.Ticket) { x.Gen += 2 },
			"an earlier begin":   func(x *api.Ticket) { x.From -= 30 },
			"another due":        func(x *api.Ticket) { x.Due++ },
			"an earlier due":     func(x *api.Ticket) { x.Due-- },
			"a due before begin": func(x *api.Ticket) { x.Due = 1 },
		} {
			unloaded(t, what, changed(t, func(p *sla.Parts) { change(&p.Tickets[i]) }))
		}
	}
	// Contract 0 has the levels 0 and 1, contract 1 only 0.
	for i, level := range []int{2, 6, 2, 1, 2} {
		unloaded(t, "a level that is none of the contract", changed(t, func(p *sla.Parts) { p.Tickets[i].Level = level }))
		if level > 1 && i > 1 {
			loaded(t, changed(t, func(p *sla.Parts) { p.Tickets[i].Level = level - 1 }))
		}
	}
}

// P21.4: the deadlines are exactly those of the Running tickets.
func TestLoadDeadlines(t *testing.T) {
	for what, change := range map[string]func(d *deadline.State){
		"none":            func(d *deadline.State) { d.Armed = nil },
		"the first only":  func(d *deadline.State) { d.Armed = d.Armed[:1] },
		"the last only":   func(d *deadline.State) { d.Armed = d.Armed[1:] },
		"another ID":      func(d *deadline.State) { d.Armed[1].ID = 9 },
		"another Gen":     func(d *deadline.State) { d.Armed[1].Gen = 1 },
		"another Due":     func(d *deadline.State) { d.Armed[1].Due++ },
		"one of nothing":  func(d *deadline.State) { d.Armed = append(d.Armed, slots.Thing{ID: 9, Gen: 1, Due: 1000}) },
		"one of a Paused": func(d *deadline.State) { d.Armed = append(d.Armed, slots.Thing{ID: 3, Gen: 1, Due: 1000}) },
		"one of a Spent":  func(d *deadline.State) { d.Armed = append(d.Armed, slots.Thing{ID: 4, Gen: 1, Due: 1000}) },
		"the IDs changed": func(d *deadline.State) { d.Armed[0].ID, d.Armed[1].ID = d.Armed[1].ID, d.Armed[0].ID },
		"the Gens too":    func(d *deadline.State) { d.Armed[0].Gen, d.Armed[1].Gen = d.Armed[1].Gen, d.Armed[0].Gen },
		"not in order":    func(d *deadline.State) { slices.Reverse(d.Armed) },
		"Last too small":  func(d *deadline.State) { d.Last = 6 },
		"Now below 0":     func(d *deadline.State) { d.Now = -1 },
		"Now too great":   func(d *deadline.State) { d.Now = api.Horizon + 1 },
	} {
		unloaded(t, what, changed(t, func(p *sla.Parts) { change(&p.Deadlines) }))
	}
	// A ticket whose deadline is another one's.
	unloaded(t, "one for two", changed(t, func(p *sla.Parts) {
		p.Tickets[0].ID = 0
		p.Deadlines.Armed = slices.DeleteFunc(p.Deadlines.Armed, func(d slots.Thing) bool { return d.ID == 1 })
	}))
}

// P21.4: the time of tickets, and what their clocks compute.
func TestLoadTime(t *testing.T) {
	p := busy(t).Parts()
	if p.Tickets[0].From != 15 || p.Tickets[0].Due != 35 || p.Tickets[1].From != 15 || p.Tickets[1].Due != 26 || p.Tickets[2].From != 7 {
		t.Fatalf("tickets %v", p.Tickets)
	}
	at := func(now int64) sla.Parts { return changed(t, func(p *sla.Parts) { p.Deadlines.Now = now }) }
	for _, now := range []int64{15, 16, 25} {
		loaded(t, at(now))
	}
	// Before the begin of a step, and behind its end.
	for _, now := range []int64{0, 6, 7, 14, 26, 27, 34, 35, 1000} {
		unloaded(t, "another time", at(now))
	}
	paused := func(now, from int64) sla.Parts {
		return changed(t, func(p *sla.Parts) {
			p.Deadlines.Now, p.Deadlines.Armed, p.Tickets = now, nil, p.Tickets[2:]
			p.Tickets[0].From = from
		})
	}
	for _, now := range []int64{7, 8, 1000, api.Horizon} {
		loaded(t, paused(now, 7))
		loaded(t, paused(now, now))
		loaded(t, paused(now, 0))
		unloaded(t, "a later pause", paused(now, now+1))
	}
	loaded(t, paused(0, 0))
	unloaded(t, "a later pause", paused(6, 7))
}

// moved returns a machine's state with one Running ticket at time now.
func moved(t testing.TB, contract int, now, from, left, due int64) sla.Parts {
	t.Helper()
	return sla.Parts{
		Shelf: base(t).Parts().Shelf, Sessions: session.Empty(), Tickets: []api.Ticket{running(7, contract, 0, 3, from, left, due, 0)},
		Deadlines: deadline.State{Now: now, Last: 3, Armed: []slots.Thing{{ID: 7, Gen: 3, Due: due}}},
	}
}

// P21.4: Due is what the clock computes for From and Left.
func TestLoadDue(t *testing.T) {
	loaded(t, moved(t, 0, 5, 0, 10, 10))
	loaded(t, moved(t, 0, 5, 0, 1000, 1000))
	loaded(t, moved(t, 1, 5, 0, 5, 15))
	loaded(t, moved(t, 1, 5, 0, 15, api.Week+15))
	loaded(t, moved(t, 0, 0, 0, api.Horizon, api.Horizon))
	unloaded(t, "a later due", moved(t, 0, 5, 0, 10, 11))
	unloaded(t, "an earlier due", moved(t, 1, 5, 0, 5, 14))
	unloaded(t, "a later due", moved(t, 1, 5, 0, 5, 16))
	unloaded(t, "less left", moved(t, 1, 5, 0, 4, 15))
	// A clock that never opens, and a due that no clock computes.
	unloaded(t, "a closed calendar", moved(t, 2, 5, 0, 5, 15))
	unloaded(t, "too much left", moved(t, 1, 5, 0, api.Horizon, api.Horizon))
	unloaded(t, "beyond", moved(t, 0, 5, 3, api.Horizon, api.Horizon))
	unloaded(t, "a due that is reached", moved(t, 0, 10, 0, 10, 10))
	unloaded(t, "a begin to come", moved(t, 0, 5, 6, 10, 16))
}

// P21.4: the box, and room for the notices of all levels that can still be met.
func TestLoadBox(t *testing.T) {
	for what, change := range map[string]func(b *outbox.State){
		"Last too small":  func(b *outbox.State) { b.Last = 2 },
		"not ascending":   func(b *outbox.State) { slices.Reverse(b.Notices) },
		"Retry 0":         func(b *outbox.State) { b.Notices[0].Retry = 0 },
		"too many tries":  func(b *outbox.State) { b.Notices[0].Tries = 9 },
		"state 0":         func(b *outbox.State) { b.Notices[2].State = 0 },
		"next before all": func(b *outbox.State) { b.Notices[2].Next = -1 },
	} {
		unloaded(t, what, changed(t, func(p *sla.Parts) { change(&p.Box) }))
	}
	// Tickets 1 to 3 have 1, 5 and 2 levels ahead.
	crowd := func(n, waiting int) sla.Parts {
		return changed(t, func(p *sla.Parts) {
			p.Box = outbox.State{Last: 1000}
			for i := range n {
				x := api.Notice{ID: uint64(i + 1), Ticket: 99, State: api.Waiting, Retry: 1, Wait: 1, Next: api.Horizon}
				if i >= waiting {
					x.State, x.Tries = api.Acked, 1
				}
				p.Box.Notices = append(p.Box.Notices, x)
			}
		})
	}
	loaded(t, crowd(api.MaxNotices-8, api.MaxNotices-8))
	loaded(t, crowd(api.MaxNotices, api.MaxNotices-8))
	loaded(t, crowd(api.MaxNotices, 0))
	unloaded(t, "too many notices", crowd(api.MaxNotices-7, api.MaxNotices-7))
	unloaded(t, "too many notices", crowd(api.MaxNotices, api.MaxNotices))
	unloaded(t, "too many notices", crowd(api.MaxNotices, api.MaxNotices-7))
	unloaded(t, "too many notices", crowd(api.MaxNotices+1, 0))
	m := loaded(t, crowd(api.MaxNotices, api.MaxNotices-8))
	refused(t, m, open(9, 1), api.ErrFull)
	all(t, m, tick(35), with(api.CmdResume, 3))
	refused(t, m, open(9, 1), api.ErrFull)
}

// P21.4: Clone is independent, and continues like the original.
func TestClone(t *testing.T) {
	m := busy(t)
	before := m.Parts()
	other := m.Clone()
	if got := other.Parts(); !same(got, before) {
		t.Errorf("Parts %v, want %v", got, before)
	}
	next := []api.Command{by(1, 2, open(9, 0)), lay(5, ten), sign(9, terms(5, 1, 1, 10)), with(api.CmdTry, 3), with(api.CmdAcked, 3), with(api.CmdForget, 4), tick(40), with(api.CmdResume, 3), by(1, 2, noop)}
	var outs []sla.Output
	for _, c := range next {
		outs = append(outs, do(t, other, c))
	}
	if got := m.Parts(); !same(got, before) {
		t.Errorf("Parts %v, want %v", got, before)
	}
	for i, c := range next {
		if out := do(t, m, c); !sla.Same(out, outs[i]) {
			t.Errorf("%v: output %v, want %v", c, out, outs[i])
		}
	}
	if a, b := m.Parts(), other.Parts(); !same(a, b) {
		t.Errorf("Parts %v and %v", a, b)
	}
}

// P21.4: what Parts returns, and what Load was given, is apart from the machine; LANGUAGE 7.
func TestApart(t *testing.T) {
	spoil := func(p sla.Parts) {
		for i := range p.Tickets {
			p.Tickets[i] = api.Ticket{ID: 77}
		}
		for i := range p.Deadlines.Armed {
			p.Deadlines.Armed[i] = slots.Thing{}
		}
		for i := range p.Box.Notices {
			p.Box.Notices[i] = api.Notice{}
		}
		p.Shelf.Lay(7, ten)
		p.Shelf.Sign(15, terms(7, 1, 1, 1))
		p.Sessions.Done(7, 1, api.Reply{})
		p.Sessions.Drop(1)
	}
	m := busy(t)
	before := m.Parts()
	spoil(m.Parts())
	if got := m.Parts(); !same(got, before) {
		t.Errorf("Parts %v, want %v", got, before)
	}
	given := m.Parts()
	m = loaded(t, given)
	spoil(given)
	if got := m.Parts(); !same(got, before) {
		t.Errorf("Parts %v, want %v", got, before)
	}
	given = m.Parts()
	m = loaded(t, given)
	all(t, m, lay(7, ten), sign(15, terms(7, 1, 1, 1)), open(77, 15), by(7, 1, noop), tick(100), with(api.CmdTry, 3))
	if !same(given, before) {
		t.Errorf("Parts %v, want %v", given, before)
	}
	// Due, and the IDs in a reply that a session remembers.
	for i, l := 0, m.Due(); i < len(l); i++ {
		l[i] = api.Notice{}
	}
	out := do(t, m, by(7, 2, tick(1000)))
	if len(out.Reply.Fired) == 0 {
		t.Fatalf("output %v", out)
	}
	want := slices.Clone(out.Reply.Fired)
	out.Reply.Fired[0] = 99
	out = do(t, m, by(7, 2, noop))
	if !out.Again || !slices.Equal(out.Reply.Fired, want) {
		t.Errorf("output %v, want %v", out, want)
	}
	out.Reply.Fired[0] = 99
	if out = do(t, m, by(7, 2, noop)); !slices.Equal(out.Reply.Fired, want) {
		t.Errorf("output %v, want %v", out, want)
	}
}

// General rule 4: an entry is not changed, nor what lies behind it, and it is not kept.
func TestEntryIsNotKept(t *testing.T) {
	m := sla.New()
	for _, c := range []api.Command{lay(0, ten), sign(0, terms(0, 2, 5, 10, 20)), open(7, 0)} {
		b := entry(t, c)
		room := append(slices.Clone(b), 1, 2, 3)
		m.Apply(room[:len(b)])
		if !bytes.Equal(room, append(slices.Clone(b), 1, 2, 3)) {
			t.Errorf("%v: entry %x, before %x", c, room, b)
		}
		for i := range room {
			room[i] = 0xff
		}
	}
	if c, ok := m.Parts().Shelf.Plain(0); !ok || !slices.Equal(c.Week, ten.Week) {
		t.Errorf("calendar %v", c)
	}
	wantTicket(t, m, running(7, 0, 0, 1, 0, 10, 20, 0))
}
