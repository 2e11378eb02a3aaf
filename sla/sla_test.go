package sla_test

import (
	"bytes"
	"math"
	"slices"
	"testing"

	"curfew/api"
	"curfew/command"
	"curfew/contract"
	"curfew/deadline"
	"curfew/outbox"
	"curfew/quill"
	"curfew/reply"
	"curfew/session"
	"curfew/sla"
	"curfew/slots"
)

var (
	always = api.Calendar{Week: []api.Span{{From: 0, To: api.Week}}}
	never  = api.Calendar{}
	ten    = api.Calendar{Week: []api.Span{{From: 10, To: 20}}}
	noop   = api.Command{Kind: api.CmdNoop}
)

// terms returns a contract with levels of these budgets, each with a party of its own.
func terms(calendar, retry int, backoff int64, budgets ...int64) api.Contract {
	c := api.Contract{Calendar: calendar, Retry: retry, Backoff: backoff}
	for i, n := range budgets {
		c.Levels = append(c.Levels, api.Level{Budget: n, Party: i + 2})
	}
	return c
}

// contracts are those that base signs.
func contracts() []api.Contract {
	return []api.Contract{
		terms(0, 2, 5, 10, 20), terms(1, 1, 7, 5), terms(2, 1, 7, 5), terms(0, 1, 5, 10, 11, 12, 13, 14, 15), terms(0, 8, api.MaxBackoff, api.Horizon), terms(0, 1, 5, 10, api.Horizon-5, 1),
	}
}

func lay(n uint64, c api.Calendar) api.Command {
	return api.Command{Kind: api.CmdCalendar, ID: n, Calendar: c}
}

func sign(n uint64, c api.Contract) api.Command {
	return api.Command{Kind: api.CmdContract, ID: n, Terms: c}
}

func open(id uint64, contract int) api.Command {
	return api.Command{Kind: api.CmdOpen, ID: id, Contract: contract}
}

func tick(at int64) api.Command { return api.Command{Kind: api.CmdTick, At: at} }

// with returns a command that has an ID only.
func with(kind int, id uint64) api.Command { return api.Command{Kind: kind, ID: id} }

// by returns a command as request of a client.
func by(client, req uint64, c api.Command) api.Command {
	c.Client, c.Req = client, req
	return c
}

func entry(t testing.TB, c api.Command) []byte {
	t.Helper()
	b, e := command.Bytes(c)
	if e != api.OK {
		t.Fatalf("%v: error %d", c, int(e))
	}
	return b
}

// do executes a command.
func do(t testing.TB, m *sla.Machine, c api.Command) sla.Output {
	t.Helper()
	before := m.Index()
	out := m.Apply(entry(t, c))
	if out.Index != before+1 || m.Index() != before+1 || out.Client != c.Client || out.Req != c.Req {
		t.Errorf("%v: output %v, Index %d, before %d", c, out, m.Index(), before)
	}
	if !out.Again && out.Reply.Time != m.Time() {
		t.Errorf("%v: Time %d in %v", c, m.Time(), out)
	}
	return out
}

// all executes commands that must be OK.
func all(t testing.TB, m *sla.Machine, l ...api.Command) {
	t.Helper()
	for _, c := range l {
		if out := do(t, m, c); out.Reply.Code != api.OK {
			t.Fatalf("%v: output %v", c, out)
		}
	}
}

// want executes a command of no client that must be OK, and compares the reply, whose Time is that of the machine.
func want(t testing.TB, m *sla.Machine, c api.Command, r api.Reply) {
	t.Helper()
	out := do(t, m, c)
	r.Time = m.Time()
	if !reply.Same(out.Reply, r) || out.Again || out.Sent != (api.Notice{}) {
		t.Errorf("%v: output %v, want %v", c, out, r)
	}
}

// refused executes a command of no client that must be rejected and change nothing.
func refused(t testing.TB, m *sla.Machine, c api.Command, why api.Errno) {
	t.Helper()
	before := m.Parts()
	out := do(t, m, c)
	if !reply.Same(out.Reply, reply.Refused(why, before.Deadlines.Now)) || out.Again || out.Sent != (api.Notice{}) {
		t.Errorf("%v: output %v, want error %d", c, out, int(why))
	}
	before.Index++
	if after := m.Parts(); !same(after, before) {
		t.Errorf("%v: state %v, want %v", c, after, before)
	}
}

// base returns a machine with calendars and contracts.
func base(t testing.TB) *sla.Machine {
	t.Helper()
	m := sla.New()
	all(t, m, lay(0, always), lay(1, ten), lay(2, never))
	for i, c := range contracts() {
		all(t, m, sign(uint64(i), c))
	}
	return m
}

// running returns a ticket that runs.
func running(id uint64, contract, level int, gen uint64, from, left, due int64, told int) api.Ticket {
	return api.Ticket{ID: id, Contract: contract, State: api.Running, Level: level, Gen: gen, From: from, Left: left, Due: due, Told: told}
}

// wantTicket compares a ticket that must be there.
func wantTicket(t testing.TB, m *sla.Machine, want api.Ticket) {
	t.Helper()
	if got, ok := m.Ticket(want.ID); got != want || !ok {
		t.Errorf("Ticket(%d): %v, %t, want %v", want.ID, got, ok, want)
	}
}

// wantNotice compares a notice that must be there.
func wantNotice(t testing.TB, m *sla.Machine, want api.Notice) {
	t.Helper()
	if got, ok := m.Notice(want.ID); got != want || !ok {
		t.Errorf("Notice(%d): %v, %t, want %v", want.ID, got, ok, want)
	}
}

// wantArmed compares the deadlines, of which the IDs, Gens and Dues are given.
func wantArmed(t testing.TB, m *sla.Machine, last uint64, l ...int64) {
	t.Helper()
	var armed []slots.Thing
	for i := 0; i < len(l); i += 3 {
		armed = append(armed, slots.Thing{ID: uint64(l[i]), Gen: uint64(l[i+1]), Due: l[i+2]})
	}
	if got := m.Parts().Deadlines; got.Last != last || !slices.Equal(got.Armed, armed) {
		t.Errorf("deadlines %v, want the last %d and %v", got, last, armed)
	}
}

// shelved returns what a shelf has, as bytes.
func shelved(s *contract.Shelf) []byte {
	var w quill.Writer
	s.Put(&w)
	return w.Bytes()
}

// remembered returns what a table has, as bytes.
func remembered(s *session.Table) []byte {
	var w quill.Writer
	s.Put(&w)
	return w.Bytes()
}

// same reports whether two states are equal.
func same(a, b sla.Parts) bool {
	return a.Index == b.Index && (a.Shelf == nil) == (b.Shelf == nil) && bytes.Equal(shelved(a.Shelf), shelved(b.Shelf)) && slices.Equal(a.Tickets, b.Tickets) &&
		deadline.Same(a.Deadlines, b.Deadlines) && outbox.Same(a.Box, b.Box) && (a.Sessions == nil) == (b.Sessions == nil) && bytes.Equal(remembered(a.Sessions), remembered(b.Sessions))
}

// P21.1 to P21.3: the chapter's example, which is the third one of the whole.
func TestExample(t *testing.T) {
	m := sla.New()
	all(t, m, lay(0, always), sign(0, terms(0, 2, 5, 10, 20)))
	want(t, m, open(7, 0), api.Reply{Ticket: running(7, 0, 0, 1, 0, 10, 10, 0)})
	want(t, m, tick(9), api.Reply{})
	want(t, m, tick(12), api.Reply{Fired: []uint64{7}, Notice: 1})
	wantTicket(t, m, running(7, 0, 1, 2, 12, 20, 32, 1))
	want(t, m, tick(32), api.Reply{Fired: []uint64{7}, Notice: 2})
	wantTicket(t, m, api.Ticket{ID: 7, State: api.Spent, Level: 1, Told: 2})
	wantArmed(t, m, 2)
}

// P21.2 and P21.3: the second, fourth and fifth example of the whole.
func TestExamplesOfWhole(t *testing.T) {
	m := base(t)
	want(t, m, open(1, 1), api.Reply{Ticket: running(1, 1, 0, 1, 0, 5, 15, 0)})
	all(t, m, tick(8))
	want(t, m, with(api.CmdPause, 1), api.Reply{Ticket: api.Ticket{ID: 1, Contract: 1, State: api.Paused, From: 8, Left: 5}})
	all(t, m, tick(18))
	want(t, m, with(api.CmdResume, 1), api.Reply{Ticket: running(1, 1, 0, 2, 18, 5, api.Week+13, 0)})

	m = sla.New()
	all(t, m, lay(0, always), sign(0, terms(0, 2, 5, 15)), open(1, 0), tick(8))
	want(t, m, with(api.CmdPause, 1), api.Reply{Ticket: api.Ticket{ID: 1, State: api.Paused, From: 8, Left: 7}})
	all(t, m, tick(100))
	want(t, m, with(api.CmdResume, 1), api.Reply{Ticket: running(1, 0, 0, 2, 100, 7, 107, 0)})

	m = sla.New()
	all(t, m, lay(0, always), sign(0, terms(0, 2, 5, 12)), open(1, 0), tick(12), with(api.CmdTry, 1))
	all(t, m, tick(16))
	refused(t, m, with(api.CmdTry, 1), api.ErrBusy)
	all(t, m, tick(17), with(api.CmdTry, 1))
	want(t, m, tick(26), api.Reply{})
	want(t, m, tick(27), api.Reply{Dead: 1})
}

// P21.1: what is not the encoding of a command changes nothing but Index.
func TestMalformed(t *testing.T) {
	m := base(t)
	all(t, m, by(1, 5, open(7, 0)), tick(12))
	good := entry(t, by(1, 6, noop))
	bad := [][]byte{nil, {}, {0}, {1, 1}, good[:len(good)-1], append(slices.Clone(good), 0), bytes.Repeat([]byte{1}, api.MaxCommand)}
	for i, l := range [][][]byte{bad, {bytes.Repeat([]byte{1}, api.MaxCommand+1), make([]byte, api.MaxData)}} {
		for _, b := range l {
			before := m.Parts()
			before.Index++
			why := []api.Errno{api.ErrForm, api.ErrLong}[i]
			if out := m.Apply(b); !sla.Same(out, sla.Output{Index: before.Index, Reply: reply.Refused(why, 12)}) {
				t.Errorf("Apply(%x): %v", b, out)
			}
			if after := m.Parts(); !same(after, before) {
				t.Errorf("Apply(%x): state %v, want %v", b, after, before)
			}
		}
	}
	if out := m.Apply(good); out.Reply.Code != api.OK {
		t.Errorf("Apply(%x): %v", good, out)
	}
}

// P21.1: Look decides whether the command of a client is executed.
func TestSessions(t *testing.T) {
	m := base(t)
	first := do(t, m, by(1, 5, open(7, 0)))
	if first.Again || first.Reply.Ticket != running(7, 0, 0, 1, 0, 10, 10, 0) || m.Last(1) != 5 || m.Last(2) != 0 {
		t.Errorf("output %v, Last %d, %d", first, m.Last(1), m.Last(2))
	}
	all(t, m, tick(12))
	state := m.Parts()
	// The remembered reply has the Time of its entry, whatever the request asks for now.
	for i, c := range []api.Command{open(7, 0), open(8, 0), noop, tick(50), with(api.CmdTry, 1)} {
		out := do(t, m, by(1, 5, c))
		if !sla.Same(out, sla.Output{Index: state.Index + uint64(i) + 1, Client: 1, Req: 5, Again: true, Reply: first.Reply}) || out.Reply.Time != 0 {
			t.Errorf("output %v, want again %v", out, first.Reply)
		}
	}
	for _, req := range []uint64{1, 4} {
		if out := do(t, m, by(1, req, tick(50))); !reply.Same(out.Reply, reply.Refused(api.ErrOld, 12)) || out.Again {
			t.Errorf("request %d: %v", req, out)
		}
	}
	for client := uint64(1); client <= api.MaxClients; client++ {
		if out := do(t, m, by(client, 0, tick(50))); !reply.Same(out.Reply, reply.Refused(api.ErrArg, 12)) || out.Again {
			t.Errorf("request 0 of %d: %v", client, out)
		}
	}
	state.Index += 7 + api.MaxClients
	if after := m.Parts(); !same(after, state) {
		t.Errorf("state %v, want %v", after, state)
	}
	if out := do(t, m, by(1, 6, tick(50))); !reply.Same(out.Reply, api.Reply{Time: 50, Fired: []uint64{7}, Notice: 2}) || m.Last(1) != 6 {
		t.Errorf("output %v, Last %d", out, m.Last(1))
	}
	if out := do(t, m, by(1, 6, noop)); !out.Again || !reply.Same(out.Reply, api.Reply{Time: 50, Fired: []uint64{7}, Notice: 2}) {
		t.Errorf("output %v", out)
	}
	if out := do(t, m, by(1, 5, noop)); out.Again || out.Reply.Code != api.ErrOld {
		t.Errorf("output %v", out)
	}
}

// P21.1: a rejected command changes only the session, which remembers the error.
func TestRejectedIsRemembered(t *testing.T) {
	m := base(t)
	state := m.Parts()
	if out := do(t, m, by(2, math.MaxUint64, with(api.CmdPause, 9))); !reply.Same(out.Reply, reply.Refused(api.ErrNone, 0)) || out.Again {
		t.Errorf("output %v", out)
	}
	state.Index++
	if e := state.Sessions.Done(2, math.MaxUint64, reply.Refused(api.ErrNone, 0)); e != api.OK {
		t.Errorf("error %d", int(e))
	}
	if after := m.Parts(); !same(after, state) {
		t.Errorf("state %v, want %v", after, state)
	}
	all(t, m, open(9, 0), tick(3))
	if out := do(t, m, by(2, math.MaxUint64, with(api.CmdPause, 9))); !reply.Same(out.Reply, reply.Refused(api.ErrNone, 0)) || !out.Again {
		t.Errorf("output %v", out)
	}
	wantTicket(t, m, running(9, 0, 0, 1, 0, 10, 10, 0))
}

// P21.1: commands of no client are always executed, whatever their Req, and no session remembers them.
func TestNoClient(t *testing.T) {
	m := base(t)
	before := remembered(m.Parts().Sessions)
	for i, req := range []uint64{5, 5, 0, 3, math.MaxUint64, 1} {
		at := int64(i + 1)
		if out := do(t, m, by(0, req, tick(at))); !reply.Same(out.Reply, api.Reply{Time: at}) || out.Again {
			t.Errorf("request %d: %v", req, out)
		}
	}
	if after := remembered(m.Parts().Sessions); !bytes.Equal(before, after) || m.Last(0) != 0 {
		t.Errorf("sessions %x, before %x", after, before)
	}
}

// P21.2
func TestNoop(t *testing.T) {
	m := base(t)
	all(t, m, open(7, 0), tick(12), with(api.CmdTry, 1))
	before := m.Parts()
	want(t, m, noop, api.Reply{})
	before.Index++
	if after := m.Parts(); !same(after, before) {
		t.Errorf("state %v, want %v", after, before)
	}
}

// P21.2
func TestCalendar(t *testing.T) {
	m := sla.New()
	for n := uint64(0); n < api.MaxCalendars; n++ {
		want(t, m, lay(n, api.Calendar{Offset: int64(n), Week: ten.Week}), api.Reply{})
	}
	for n := range api.MaxCalendars {
		if c, ok := m.Parts().Shelf.Plain(n); !ok || c.Offset != int64(n) || !slices.Equal(c.Week, ten.Week) {
			t.Errorf("calendar %d: %v, %t", n, c, ok)
		}
		refused(t, m, lay(uint64(n), ten), api.ErrThere)
	}
	for _, n := range []uint64{api.MaxCalendars, api.MaxCalendars + 1, 1 << 8, 1 << 32, 1 << 63, 1<<63 + 1, math.MaxUint64} {
		refused(t, m, lay(n, ten), api.ErrArg)
	}
}

// P21.2: errors, of several the first.
func TestContract(t *testing.T) {
	m := sla.New()
	refused(t, m, sign(0, terms(0, 2, 5, 10)), api.ErrNone)
	all(t, m, lay(0, always))
	for n := uint64(0); n < api.MaxContracts; n++ {
		refused(t, m, sign(n, terms(1, 2, 5, 10)), api.ErrNone)
		want(t, m, sign(n, terms(0, 2, 5, 10, 20+int64(n))), api.Reply{})
		refused(t, m, sign(n, terms(0, 1, 5, 10)), api.ErrThere)
		refused(t, m, sign(n, terms(1, 1, 5, 10)), api.ErrNone)
	}
	for n := range api.MaxContracts {
		if c, ok := m.Parts().Shelf.Terms(n); !ok || !contract.Same(c, terms(0, 2, 5, 10, 20+int64(n))) {
			t.Errorf("contract %d: %v, %t", n, c, ok)
		}
	}
	for _, n := range []uint64{api.MaxContracts, api.MaxContracts + 1, 1 << 8, 1 << 32, 1 << 63, 1<<63 + 1, math.MaxUint64} {
		refused(t, m, sign(n, terms(0, 2, 5, 10)), api.ErrArg)
		refused(t, m, sign(n, terms(1, 2, 5, 10)), api.ErrArg)
	}
}

// P21.2
func TestOpen(t *testing.T) {
	m := base(t)
	want(t, m, open(7, 0), api.Reply{Ticket: running(7, 0, 0, 1, 0, 10, 10, 0)})
	want(t, m, open(0, 1), api.Reply{Ticket: running(0, 1, 0, 2, 0, 5, 15, 0)})
	all(t, m, tick(3))
	want(t, m, open(math.MaxUint64, 3), api.Reply{Ticket: running(math.MaxUint64, 3, 0, 3, 3, 10, 13, 0)})
	wantArmed(t, m, 3, 7, 1, 10, -1, 3, 13, 0, 2, 15)
	wantTicket(t, m, running(7, 0, 0, 1, 0, 10, 10, 0))
	wantTicket(t, m, running(0, 1, 0, 2, 0, 5, 15, 0))
	wantTicket(t, m, running(math.MaxUint64, 3, 0, 3, 3, 10, 13, 0))
	if got, ok := m.Ticket(1); ok || got != (api.Ticket{}) {
		t.Errorf("Ticket(1): %v, %t", got, ok)
	}
}

// P21.2: errors, of several the first.
func TestOpenErrors(t *testing.T) {
	m := base(t)
	all(t, m, open(7, 0), tick(1))
	for contract := range api.MaxContracts {
		refused(t, m, open(7, contract), api.ErrThere)
	}
	refused(t, m, open(8, 6), api.ErrNone)
	refused(t, m, open(8, api.MaxContracts-1), api.ErrNone)
	refused(t, m, open(8, 2), api.ErrClosed)
	refused(t, m, open(8, 4), api.ErrBig)
	// A ticket is there until it is forgotten.
	all(t, m, with(api.CmdPause, 7))
	refused(t, m, open(7, 0), api.ErrThere)
	all(t, m, with(api.CmdResolve, 7))
	refused(t, m, open(7, 0), api.ErrThere)
	all(t, m, with(api.CmdForget, 7), open(7, 0))

	m = base(t)
	for id := range uint64(api.MaxTickets) {
		all(t, m, open(id, 1))
	}
	refused(t, m, open(5, 0), api.ErrThere)
	for contract := range api.MaxContracts {
		refused(t, m, open(100, contract), api.ErrFull)
	}
	all(t, m, with(api.CmdResolve, 5))
	refused(t, m, open(100, 0), api.ErrFull)
	all(t, m, with(api.CmdForget, 5), open(100, 0))
	refused(t, m, open(5, 0), api.ErrFull)
}

// filled returns a machine whose tickets from 0 on have MaxNotices levels ahead: 21 of contract 3, then one of contract 0.
func filled(t testing.TB) *sla.Machine {
	t.Helper()
	m := base(t)
	for id := range uint64(21) {
		all(t, m, open(id, 3))
	}
	refused(t, m, open(21, 3), api.ErrFull)
	all(t, m, open(21, 0))
	return m
}

// P21.2: there is room for the notices of all levels that can still be met.
func TestRoomToOpen(t *testing.T) {
	m := filled(t)
	refused(t, m, open(50, 1), api.ErrFull)
	// The errors that come first.
	refused(t, m, open(50, 2), api.ErrClosed)
	refused(t, m, open(50, 6), api.ErrNone)
	refused(t, m, open(21, 1), api.ErrThere)
	// A notice takes the room of its level, and a Paused ticket keeps it.
	all(t, m, with(api.CmdPause, 0), tick(10))
	refused(t, m, open(50, 1), api.ErrFull)
	all(t, m, with(api.CmdTry, 1), with(api.CmdTry, 2))
	refused(t, m, open(50, 1), api.ErrFull)
	all(t, m, with(api.CmdAcked, 1), open(50, 1))
	refused(t, m, open(51, 1), api.ErrFull)
	// Notice 2 is Dead.
	want(t, m, tick(15), api.Reply{Fired: []uint64{50}, Notice: 22, Dead: 1})
	refused(t, m, open(51, 0), api.ErrFull)
	all(t, m, open(51, 1))
	refused(t, m, open(52, 1), api.ErrFull)
}

// P21.2: the same holds for a ticket that is opened once more; one that is Resolved has nothing ahead.
func TestRoomToReopen(t *testing.T) {
	m := filled(t)
	all(t, m, with(api.CmdResolve, 0), with(api.CmdReopen, 0), with(api.CmdResolve, 0), open(50, 1))
	refused(t, m, with(api.CmdReopen, 0), api.ErrFull)
	refused(t, m, with(api.CmdReopen, 1), api.ErrState)
	refused(t, m, with(api.CmdReopen, 99), api.ErrNone)
	all(t, m, with(api.CmdResolve, 1), with(api.CmdReopen, 0))
	refused(t, m, with(api.CmdReopen, 1), api.ErrFull)
	refused(t, m, with(api.CmdReopen, 0), api.ErrState)
	// There is room for 5 levels, and then for 6.
	all(t, m, with(api.CmdResolve, 21), open(51, 1), open(52, 1))
	refused(t, m, with(api.CmdReopen, 1), api.ErrFull)
	all(t, m, with(api.CmdResolve, 50), with(api.CmdReopen, 1))
	refused(t, m, open(53, 1), api.ErrFull)
}

// P21.2 and P21.5: all the notices for which room was left can be there at once, and none is lost.
func TestAllNotices(t *testing.T) {
	m := filled(t)
	for _, at := range []int64{10, 21, 33, 46, 60, 75} {
		all(t, m, tick(at))
	}
	if l := m.Due(); len(l) != api.MaxNotices || l[0].ID != 1 || l[api.MaxNotices-1].ID != api.MaxNotices {
		t.Errorf("Due: %v", l)
	}
	for id := range uint64(22) {
		all(t, m, with(api.CmdResolve, id))
		refused(t, m, with(api.CmdReopen, id), api.ErrFull)
	}
	// The error of the ticket comes first.
	late := m.Clone()
	all(t, late, tick(api.Horizon-3))
	refused(t, late, open(50, 1), api.ErrBig)
	refused(t, late, with(api.CmdReopen, 0), api.ErrBig)

	all(t, m, with(api.CmdTry, 1), with(api.CmdAcked, 1))
	refused(t, m, with(api.CmdReopen, 21), api.ErrFull)
	refused(t, m, open(50, 0), api.ErrFull)
	all(t, m, with(api.CmdTry, 9), with(api.CmdAcked, 9), with(api.CmdReopen, 21))
	refused(t, m, open(50, 1), api.ErrFull)
}

// P21.2: a deadline is armed anew, with the next number, whenever its ticket runs anew, and removed when it no longer runs.
func TestLife(t *testing.T) {
	m := base(t)
	all(t, m, open(7, 0), open(8, 0), tick(4))
	want(t, m, with(api.CmdPause, 7), api.Reply{Ticket: api.Ticket{ID: 7, State: api.Paused, From: 4, Left: 6}})
	wantTicket(t, m, api.Ticket{ID: 7, State: api.Paused, From: 4, Left: 6})
	wantArmed(t, m, 2, 8, 2, 10)
	want(t, m, with(api.CmdResume, 7), api.Reply{Ticket: running(7, 0, 0, 3, 4, 6, 10, 0)})
	wantTicket(t, m, running(7, 0, 0, 3, 4, 6, 10, 0))
	wantArmed(t, m, 3, 7, 3, 10, 8, 2, 10)
	want(t, m, tick(12), api.Reply{Fired: []uint64{7, 8}, Notice: 1})
	wantTicket(t, m, running(7, 0, 1, 4, 12, 20, 32, 1))
	wantTicket(t, m, running(8, 0, 1, 5, 12, 20, 32, 1))
	wantArmed(t, m, 5, 7, 4, 32, 8, 5, 32)
	want(t, m, with(api.CmdResolve, 8), api.Reply{Ticket: api.Ticket{ID: 8, State: api.Resolved, Level: 1, Told: 1}})
	wantTicket(t, m, api.Ticket{ID: 8, State: api.Resolved, Level: 1, Told: 1})
	wantArmed(t, m, 5, 7, 4, 32)
	want(t, m, with(api.CmdReopen, 8), api.Reply{Ticket: running(8, 0, 0, 6, 12, 10, 22, 1)})
	wantTicket(t, m, running(8, 0, 0, 6, 12, 10, 22, 1))
	wantArmed(t, m, 6, 8, 6, 22, 7, 4, 32)
	all(t, m, with(api.CmdPause, 8))
	want(t, m, with(api.CmdResolve, 8), api.Reply{Ticket: api.Ticket{ID: 8, State: api.Resolved, Told: 1}})
	want(t, m, tick(32), api.Reply{Fired: []uint64{7}, Notice: 3})
	wantTicket(t, m, api.Ticket{ID: 7, State: api.Spent, Level: 1, Told: 2})
	wantArmed(t, m, 6)
	want(t, m, with(api.CmdResolve, 7), api.Reply{Ticket: api.Ticket{ID: 7, State: api.Resolved, Level: 1, Told: 2}})
	want(t, m, with(api.CmdReopen, 7), api.Reply{Ticket: running(7, 0, 0, 7, 32, 10, 42, 2)})
	wantArmed(t, m, 7, 7, 7, 42)
}

// P21.2: errors of the commands for tickets in each State.
func TestLifeErrors(t *testing.T) {
	m := base(t)
	all(t, m, open(1, 0), open(2, 0), open(3, 1), open(4, 0), with(api.CmdPause, 2), with(api.CmdResolve, 4), tick(9))
	all(t, m, with(api.CmdPause, 1), tick(15), with(api.CmdResume, 1))
	for _, kind := range []int{api.CmdPause, api.CmdResume, api.CmdResolve, api.CmdReopen, api.CmdForget} {
		refused(t, m, with(kind, 0), api.ErrNone)
		refused(t, m, with(kind, 5), api.ErrNone)
		refused(t, m, with(kind, math.MaxUint64), api.ErrNone)
		// Which of them the States Running, Paused, Spent, Resolved of tickets 1 to 4 allow.
		fine := map[int][]uint64{api.CmdPause: {1}, api.CmdResume: {2}, api.CmdResolve: {1, 2, 3}, api.CmdReopen: {4}, api.CmdForget: {3, 4}}[kind]
		for id := uint64(1); id <= 4; id++ {
			if slices.Contains(fine, id) {
				all(t, m.Clone(), with(kind, id))
			} else {
				refused(t, m, with(kind, id), api.ErrState)
			}
		}
	}
	// Errors of the clock.
	all(t, m, tick(api.Horizon-5))
	for id, why := range map[uint64]api.Errno{2: api.ErrBig, 4: api.ErrBig} {
		refused(t, m, with([]int{2: api.CmdResume, 4: api.CmdReopen}[id], id), why)
	}
}

// P21.2
func TestForget(t *testing.T) {
	m := base(t)
	all(t, m, open(1, 1), open(2, 0), open(3, 0), with(api.CmdResolve, 2), tick(20))
	want(t, m, with(api.CmdForget, 1), api.Reply{})
	want(t, m, with(api.CmdForget, 2), api.Reply{})
	for id := uint64(1); id <= 2; id++ {
		if got, ok := m.Ticket(id); ok || got != (api.Ticket{}) {
			t.Errorf("Ticket(%d): %v, %t", id, got, ok)
		}
		refused(t, m, with(api.CmdForget, id), api.ErrNone)
	}
	if l := m.Parts().Tickets; len(l) != 1 || l[0].ID != 3 {
		t.Errorf("tickets %v", l)
	}
	// A ticket that is opened once more begins anew, while the notices of the old one stay.
	want(t, m, open(1, 0), api.Reply{Ticket: running(1, 0, 0, 5, 20, 10, 30, 0)})
	if n, ok := m.Notice(2); !ok || n.Ticket != 1 {
		t.Errorf("Notice(2): %v, %t", n, ok)
	}
}

// P21.3
func TestTickErrors(t *testing.T) {
	m := base(t)
	all(t, m, open(7, 0))
	for range 2 {
		for _, at := range []int64{-1, -2, math.MinInt64, api.Horizon + 1, math.MaxInt64} {
			refused(t, m, tick(at), api.ErrArg)
		}
		for _, at := range []int64{0, m.Time() - 1, m.Time()} {
			if at >= 0 {
				refused(t, m, tick(at), api.ErrOld)
			}
		}
		all(t, m, tick(m.Time()+100))
	}
	want(t, m, tick(api.Horizon), api.Reply{})
	refused(t, m, tick(api.Horizon), api.ErrOld)
	refused(t, m, tick(api.Horizon+1), api.ErrArg)
}

// P21.3 and P21.5: tickets are fired in the order of their deadlines, one level each, and the notices have the contract's terms.
func TestTick(t *testing.T) {
	m := base(t)
	all(t, m, open(9, 0), open(3, 0), open(5, 3), open(1, 1), tick(1), open(2, 0), tick(2))
	want(t, m, tick(500), api.Reply{Fired: []uint64{3, 5, 9, 2, 1}, Notice: 1})
	wantTicket(t, m, running(3, 0, 1, 6, 500, 20, 520, 1))
	wantTicket(t, m, running(5, 3, 1, 7, 500, 11, 511, 1))
	wantTicket(t, m, running(9, 0, 1, 8, 500, 20, 520, 1))
	wantTicket(t, m, running(2, 0, 1, 9, 500, 20, 520, 1))
	wantTicket(t, m, api.Ticket{ID: 1, Contract: 1, State: api.Spent, Told: 1})
	wantArmed(t, m, 9, 5, 7, 511, 2, 9, 520, 3, 6, 520, 9, 8, 520)
	for i, id := range []uint64{3, 5, 9, 2, 1} {
		n := api.Notice{ID: uint64(i + 1), Ticket: id, Party: 2, State: api.Waiting, Retry: 2, Wait: 5, Next: 500}
		switch id {
		case 5:
			n.Retry = 1
		case 1:
			n.Retry, n.Wait = 1, 7
		}
		wantNotice(t, m, n)
	}
	want(t, m, tick(519), api.Reply{Fired: []uint64{5}, Notice: 6})
	wantNotice(t, m, api.Notice{ID: 6, Ticket: 5, Level: 1, Party: 3, State: api.Waiting, Retry: 1, Wait: 5, Next: 519})
	want(t, m, tick(520), api.Reply{Fired: []uint64{2, 3, 9}, Notice: 7})
	wantNotice(t, m, api.Notice{ID: 7, Ticket: 2, Level: 1, Party: 3, State: api.Waiting, Retry: 2, Wait: 5, Next: 520})
	wantArmed(t, m, 10, 5, 10, 531)
}

// P21.3: a ticket whose next step would not end is Spent.
func TestTickAtTheEnd(t *testing.T) {
	m := base(t)
	all(t, m, open(1, 4), open(2, 5), open(3, 5), tick(10))
	wantTicket(t, m, api.Ticket{ID: 2, Contract: 5, State: api.Spent, Told: 1})
	wantTicket(t, m, running(1, 4, 0, 1, 0, api.Horizon, api.Horizon, 0))
	want(t, m, tick(api.Horizon-1), api.Reply{})
	want(t, m, tick(api.Horizon), api.Reply{Fired: []uint64{1}, Notice: 3})
	wantNotice(t, m, api.Notice{ID: 3, Ticket: 1, Party: 2, State: api.Waiting, Retry: 8, Wait: api.MaxBackoff, Next: api.Horizon})
	want(t, m, with(api.CmdResolve, 1), api.Reply{Ticket: api.Ticket{ID: 1, Contract: 4, State: api.Resolved, Told: 1}})
	refused(t, m, with(api.CmdReopen, 1), api.ErrBig)
}

// P21.3: notices are tried and acknowledged at the current time.
func TestTryAndAcked(t *testing.T) {
	m := base(t)
	all(t, m, open(7, 0), tick(12))
	n := api.Notice{ID: 1, Ticket: 7, Party: 2, State: api.Waiting, Retry: 2, Wait: 5, Next: 12}
	if l := m.Due(); !slices.Equal(l, []api.Notice{n}) {
		t.Errorf("Due: %v", l)
	}
	for _, kind := range []int{api.CmdTry, api.CmdAcked} {
		refused(t, m, with(kind, 0), api.ErrNone)
		refused(t, m, with(kind, 2), api.ErrNone)
		refused(t, m, with(kind, math.MaxUint64), api.ErrNone)
	}
	refused(t, m, with(api.CmdAcked, 1), api.ErrState)
	n.Tries, n.Wait, n.Next = 1, 10, 17
	if out := do(t, m, with(api.CmdTry, 1)); !reply.Same(out.Reply, api.Reply{Time: 12, Notice: 1}) || out.Sent != n {
		t.Errorf("output %v, want %v", out, n)
	}
	wantNotice(t, m, n)
	refused(t, m, with(api.CmdTry, 1), api.ErrBusy)
	all(t, m, tick(18))
	n.Tries, n.Wait, n.Next = 2, 20, 28
	first := do(t, m, by(3, 1, with(api.CmdTry, 1)))
	if !reply.Same(first.Reply, api.Reply{Time: 18, Notice: 1}) || first.Sent != n {
		t.Errorf("output %v, want %v", first, n)
	}
	// Nothing is sent when the reply is only remembered.
	if out := do(t, m, by(3, 1, with(api.CmdTry, 1))); !reply.Same(out.Reply, first.Reply) || !out.Again || out.Sent != (api.Notice{}) {
		t.Errorf("output %v", out)
	}
	refused(t, m, with(api.CmdTry, 1), api.ErrState)
	other := m.Clone()
	want(t, m, with(api.CmdAcked, 1), api.Reply{Notice: 1})
	n.State = api.Acked
	wantNotice(t, m, n)
	refused(t, m, with(api.CmdAcked, 1), api.ErrState)
	want(t, m, tick(28), api.Reply{})
	want(t, other, tick(27), api.Reply{})
	want(t, other, tick(28), api.Reply{Dead: 1})
	n.State = api.Dead
	wantNotice(t, other, n)
	refused(t, other, with(api.CmdAcked, 1), api.ErrState)
	refused(t, other, with(api.CmdTry, 1), api.ErrState)
}

// P21.3: the outbox ticks after the notices were put, so that none that dies with this tick gives its room to them.
func TestPutBeforeTick(t *testing.T) {
	m := base(t)
	all(t, m, open(7, 1))
	p := m.Parts()
	p.Box.Last = 1000
	for i := range uint64(api.MaxNotices) {
		n := api.Notice{ID: i + 1, State: api.Waiting, Tries: 1, Retry: 1, Wait: 5, Next: 5}
		if i >= 60 {
			n.State = api.Acked
		}
		p.Box.Notices = append(p.Box.Notices, n)
	}
	m = loaded(t, p)
	want(t, m, tick(15), api.Reply{Fired: []uint64{7}, Notice: 1001, Dead: 60})
	if _, ok := m.Notice(61); ok {
		t.Errorf("notice 61 is there")
	}
	wantNotice(t, m, api.Notice{ID: 1, State: api.Dead, Tries: 1, Retry: 1, Wait: 5, Next: 5})
}

// P21.4
func TestSame(t *testing.T) {
	full := sla.Output{Index: 5, Client: 1, Req: 2, Again: true, Reply: api.Reply{Code: 3, Time: 4, Ticket: api.Ticket{ID: 7}, Fired: []uint64{1, 2}, Notice: 5, Dead: 6}, Sent: api.Notice{ID: 9, Wait: 3}}
	l := []sla.Output{{}, full}
	for i := range 12 {
		o := full
		switch i {
		case 0:
			o.Index++
		case 1:
			o.Client++
		case 2:
			o.Req++
		case 3:
			o.Again = false
		case 4:
			o.Reply.Code++
		case 5:
			o.Reply.Time++
		case 6:
			o.Reply.Ticket.Due++
		case 7:
			o.Reply.Fired = []uint64{1, 3}
		case 8:
			o.Reply.Notice++
		case 9:
			o.Reply.Dead++
		case 10:
			o.Sent.Wait++
		case 11:
			o.Sent.ID++
		}
		l = append(l, o)
	}
	for i, a := range l {
		for j, b := range l {
			b.Reply.Fired = append(make([]uint64, 0, 9), b.Reply.Fired...)
			if got := sla.Same(a, b); got != (i == j) {
				t.Errorf("Same(%v, %v): %t", a, b, got)
			}
		}
	}
}

// P21.4, general rule 1
func TestNotCreated(t *testing.T) {
	for _, m := range []*sla.Machine{nil, {}} {
		for _, b := range [][]byte{nil, {1}, entry(t, noop), entry(t, by(1, 1, tick(5))), entry(t, lay(0, always))} {
			if out := m.Apply(b); !sla.Same(out, sla.Output{}) {
				t.Errorf("Apply(%x): %v", b, out)
			}
		}
		if n, at, l, last := m.Index(), m.Time(), m.Due(), m.Last(1); n != 0 || at != 0 || len(l) != 0 || last != 0 {
			t.Errorf("Index %d, Time %d, Due %v, Last %d", n, at, l, last)
		}
		if x, ok := m.Ticket(0); ok || x != (api.Ticket{}) {
			t.Errorf("Ticket: %v, %t", x, ok)
		}
		if x, ok := m.Notice(0); ok || x != (api.Notice{}) {
			t.Errorf("Notice: %v, %t", x, ok)
		}
		if p := m.Parts(); !same(p, sla.Parts{}) || p.Shelf != nil || p.Sessions != nil {
			t.Errorf("Parts: %v", p)
		}
	}
	var none *sla.Machine
	if m := none.Clone(); m != nil {
		t.Errorf("Clone of nil: %v", m)
	}
	if m := (&sla.Machine{}).Clone(); m == nil || m.Parts().Shelf != nil || m.Apply(entry(t, noop)).Index != 0 {
		t.Errorf("Clone of a plain one: %v", m)
	}
}

// P21.4: a new machine has nothing.
func TestNew(t *testing.T) {
	m := sla.New()
	if p := m.Parts(); !same(p, sla.Parts{Shelf: contract.New(), Sessions: session.Empty()}) || p.Shelf == nil || p.Sessions == nil {
		t.Errorf("Parts: %v", p)
	}
	if n, at, l, last := m.Index(), m.Time(), m.Due(), m.Last(1); n != 0 || at != 0 || len(l) != 0 || last != 0 {
		t.Errorf("Index %d, Time %d, Due %v, Last %d", n, at, l, last)
	}
}
