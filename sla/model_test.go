package sla_test

import (
	"math/rand/v2"
	"slices"
	"testing"

	"curfew/api"
	"curfew/calendar"
	"curfew/command"
	"curfew/contract"
	"curfew/deadline"
	"curfew/outbox"
	"curfew/reply"
	"curfew/session"
	"curfew/sla"
	"curfew/slots"
)

// model is a machine that is written down as the chapter tells it, without the layers below but for open time.
type model struct {
	index         uint64
	now           int64
	gens, notices uint64
	calendars     map[uint64]api.Calendar
	contracts     map[uint64]api.Contract
	// Tickets are in ascending order; those that are Running have a deadline.
	tickets  []api.Ticket
	box      []api.Notice
	requests map[uint64]uint64
	replies  map[uint64]api.Reply
}

func newModel() *model {
	return &model{calendars: map[uint64]api.Calendar{}, contracts: map[uint64]api.Contract{}, requests: map[uint64]uint64{}, replies: map[uint64]api.Reply{}}
}

// apply executes an entry.
func (m *model) apply(entry []byte) sla.Output {
	m.index++
	c, e := command.Read(entry)
	out := sla.Output{Index: m.index, Client: c.Client, Req: c.Req}
	last := m.requests[c.Client]
	if e == api.OK && c.Client != 0 {
		switch {
		case c.Req == 0:
			e = api.ErrArg
		case c.Req < last:
			e = api.ErrOld
		case c.Req == last:
			out.Again, out.Reply = true, m.replies[c.Client]
			return out
		}
	}
	if e != api.OK {
		out.Reply = api.Reply{Code: e, Time: m.now}
		return out
	}
	r, sent, e := m.execute(c)
	if e != api.OK {
		r, sent = api.Reply{Code: e}, api.Notice{}
	}
	r.Time = m.now
	if c.Client != 0 {
		m.requests[c.Client], m.replies[c.Client] = c.Req, r
	}
	out.Reply, out.Sent = r, sent
	return out
}

func (m *model) execute(c api.Command) (r api.Reply, sent api.Notice, e api.Errno) {
	switch c.Kind {
	case api.CmdCalendar:
		return r, sent, m.lay(c)
	case api.CmdContract:
		return r, sent, m.sign(c)
	case api.CmdOpen:
		r.Ticket, e = m.open(c)
	case api.CmdPause, api.CmdResume, api.CmdResolve, api.CmdReopen, api.CmdForget:
		r.Ticket, e = m.change(c)
	case api.CmdTick:
		return m.tick(c.At)
	case api.CmdTry:
		sent, e = m.try(c.ID)
		r.Notice = c.ID
	case api.CmdAcked:
		e = m.acked(c.ID)
		r.Notice = c.ID
	}
	return r, sent, e
}

func (m *model) lay(c api.Command) api.Errno {
	if c.ID >= 8 {
		return api.ErrArg
	}
	if _, there := m.calendars[c.ID]; there {
		return api.ErrThere
	}
	m.calendars[c.ID] = c.Calendar
	return api.OK
}

func (m *model) sign(c api.Command) api.Errno {
	if c.ID >= 16 {
		return api.ErrArg
	}
	if _, there := m.calendars[uint64(c.Terms.Calendar)]; !there {
		return api.ErrNone
	}
	if _, there := m.contracts[c.ID]; there {
		return api.ErrThere
	}
	m.contracts[c.ID] = c.Terms
	return api.OK
}

// due returns when so much open time of a contract has passed since now.
func (m *model) due(contract int, left int64) (int64, api.Errno) {
	k, _ := calendar.New(m.calendars[uint64(m.contracts[uint64(contract)].Calendar)])
	return k.Due(m.now, left)
}

// begin lets a step of a ticket run with what is left of it.
func (m *model) begin(x api.Ticket, level int, left int64) (api.Ticket, api.Errno) {
	due, e := m.due(x.Contract, left)
	if e != api.OK {
		return api.Ticket{}, e
	}
	return api.Ticket{ID: x.ID, Contract: x.Contract, State: api.Running, Level: level, From: m.now, Left: left, Due: due, Told: x.Told}, api.OK
}

// room reports whether more notices can come.
func (m *model) room(more int) bool {
	for _, n := range m.box {
		if n.State == api.Waiting {
			more++
		}
	}
	for _, x := range m.tickets {
		if x.State == api.Running || x.State == api.Paused {
			more += len(m.contracts[uint64(x.Contract)].Levels) - x.Level
		}
	}
	return more <= 128
}

// number gives a ticket the next number if it is Running.
func (m *model) number(x *api.Ticket) {
	if x.Gen = 0; x.State == api.Running {
		m.gens++
		x.Gen = m.gens
	}
}

func (m *model) find(id uint64) (int, bool) {
	i := slices.IndexFunc(m.tickets, func(x api.Ticket) bool { return x.ID >= id })
	if i < 0 {
		return len(m.tickets), false
	}
	return i, m.tickets[i].ID == id
}

func (m *model) open(c api.Command) (api.Ticket, api.Errno) {
	i, there := m.find(c.ID)
	if there {
		return api.Ticket{}, api.ErrThere
	}
	if len(m.tickets) == 64 {
		return api.Ticket{}, api.ErrFull
	}
	terms, signed := m.contracts[uint64(c.Contract)]
	if !signed {
		return api.Ticket{}, api.ErrNone
	}
	x, e := m.begin(api.Ticket{ID: c.ID, Contract: c.Contract}, 0, terms.Levels[0].Budget)
	if e != api.OK {
		return x, e
	}
	if !m.room(len(terms.Levels)) {
		return api.Ticket{}, api.ErrFull
	}
	m.number(&x)
	m.tickets = slices.Insert(m.tickets, i, x)
	return x, api.OK
}

func (m *model) change(c api.Command) (api.Ticket, api.Errno) {
	i, there := m.find(c.ID)
	if !there {
		return api.Ticket{}, api.ErrNone
	}
	x := m.tickets[i]
	// The States in which each is possible.
	if !slices.Contains(map[int][]int{api.CmdPause: {api.Running}, api.CmdResume: {api.Paused}, api.CmdResolve: {api.Running, api.Paused, api.Spent}, api.CmdReopen: {api.Resolved}, api.CmdForget: {api.Spent, api.Resolved}}[c.Kind], x.State) {
		return api.Ticket{}, api.ErrState
	}
	terms, e := m.contracts[uint64(x.Contract)], api.OK
	switch c.Kind {
	case api.CmdPause:
		k, _ := calendar.New(m.calendars[uint64(terms.Calendar)])
		gone, _ := k.Elapsed(x.From, m.now)
		x = api.Ticket{ID: x.ID, Contract: x.Contract, State: api.Paused, Level: x.Level, From: m.now, Left: x.Left - gone, Told: x.Told}
	case api.CmdResume:
		x, e = m.begin(x, x.Level, x.Left)
	case api.CmdResolve:
		x = api.Ticket{ID: x.ID, Contract: x.Contract, State: api.Resolved, Level: x.Level, Told: x.Told}
	case api.CmdReopen:
		if x, e = m.begin(x, 0, terms.Levels[0].Budget); e == api.OK && !m.room(len(terms.Levels)) {
			e = api.ErrFull
		}
	case api.CmdForget:
		m.tickets = slices.Delete(m.tickets, i, i+1)
		return api.Ticket{}, api.OK
	}
	if e != api.OK {
		return api.Ticket{}, e
	}
	m.number(&x)
	m.tickets[i] = x
	return x, api.OK
}

func (m *model) tick(at int64) (r api.Reply, sent api.Notice, e api.Errno) {
	if at < 0 || at > api.Horizon {
		return r, sent, api.ErrArg
	}
	if at <= m.now {
		return r, sent, api.ErrOld
	}
	m.now = at
	for _, d := range m.armed() {
		if d.Due <= at {
			r.Fired = append(r.Fired, d.ID)
		}
	}
	for _, id := range r.Fired {
		i, _ := m.find(id)
		if n := m.fire(&m.tickets[i]); r.Notice == 0 {
			r.Notice = n
		}
	}
	for i, n := range m.box {
		if n.State == api.Waiting && n.Tries == n.Retry && n.Next <= at {
			m.box[i].State = api.Dead
			r.Dead++
		}
	}
	return r, sent, api.OK
}

// armed returns the deadlines in order.
func (m *model) armed() []slots.Thing {
	var l []slots.Thing
	for _, x := range m.tickets {
		if x.State == api.Running {
			l = append(l, slots.Thing{ID: x.ID, Gen: x.Gen, Due: x.Due})
		}
	}
	// Deadlines with the same Due stay in the order of their tickets.
	slices.SortStableFunc(l, func(a, b slots.Thing) int { return int(a.Due - b.Due) })
	return l
}

// fire lets a ticket go on, and returns the ID of the notice.
func (m *model) fire(x *api.Ticket) uint64 {
	terms, met := m.contracts[uint64(x.Contract)], x.Level
	x.Told++
	next, e := api.Ticket{}, api.ErrNone
	if met+1 < len(terms.Levels) {
		next, e = m.begin(*x, met+1, terms.Levels[met+1].Budget)
	}
	if e != api.OK {
		next = api.Ticket{ID: x.ID, Contract: x.Contract, State: api.Spent, Level: met, Told: x.Told}
	}
	m.number(&next)
	*x = next
	if len(m.box) == 128 {
		i := slices.IndexFunc(m.box, func(n api.Notice) bool { return n.State != api.Waiting })
		m.box = slices.Delete(m.box, i, i+1)
	}
	m.notices++
	m.box = append(m.box, api.Notice{ID: m.notices, Ticket: x.ID, Level: met, Party: terms.Levels[met].Party, State: api.Waiting, Retry: terms.Retry, Wait: terms.Backoff, Next: m.now})
	return m.notices
}

func (m *model) try(id uint64) (api.Notice, api.Errno) {
	for i := range m.box {
		n := &m.box[i]
		switch {
		case n.ID != id:
			continue
		case n.State != api.Waiting || n.Tries == n.Retry:
			return api.Notice{}, api.ErrState
		case n.Next > m.now:
			return api.Notice{}, api.ErrBusy
		}
		n.Tries, n.Next, n.Wait = n.Tries+1, min(m.now+n.Wait, api.Horizon), min(2*n.Wait, api.MaxBackoff)
		return *n, api.OK
	}
	return api.Notice{}, api.ErrNone
}

func (m *model) acked(id uint64) api.Errno {
	for i := range m.box {
		n := &m.box[i]
		switch {
		case n.ID != id:
			continue
		case n.State != api.Waiting || n.Tries == 0:
			return api.ErrState
		}
		n.State = api.Acked
		return api.OK
	}
	return api.ErrNone
}

// wantModel compares all that a machine tells with a model.
func wantModel(t *testing.T, what any, got *sla.Machine, m *model) {
	t.Helper()
	p := sla.Parts{
		Index: m.index, Shelf: contract.New(), Tickets: m.tickets, Deadlines: deadline.State{Now: m.now, Last: m.gens, Armed: m.armed()},
		Box: outbox.State{Last: m.notices, Notices: m.box}, Sessions: session.Empty(),
	}
	for n, c := range m.calendars {
		p.Shelf.Lay(int(n), c)
	}
	for n, c := range m.contracts {
		p.Shelf.Sign(int(n), c)
	}
	for client, req := range m.requests {
		p.Sessions.Done(client, req, m.replies[client])
	}
	if state := got.Parts(); !same(state, p) {
		t.Fatalf("%v: state %v, want %v", what, state, p)
	}
	var due []api.Notice
	for _, n := range m.box {
		if n.State == api.Waiting && n.Tries < n.Retry && n.Next <= m.now {
			due = append(due, n)
		}
	}
	if l := got.Due(); !slices.Equal(l, due) || got.Time() != m.now || got.Index() != m.index {
		t.Fatalf("%v: Due %v, Time %d, Index %d, want %v, %d, %d", what, l, got.Time(), got.Index(), due, m.now, m.index)
	}
	for id := range uint64(5) {
		i, there := m.find(id)
		if x, ok := got.Ticket(id); ok != there || there && x != m.tickets[i] || !there && x != (api.Ticket{}) {
			t.Fatalf("%v: Ticket(%d): %v, %t", what, id, x, ok)
		}
		if got.Last(id) != m.requests[id] {
			t.Fatalf("%v: Last(%d): %d", what, id, got.Last(id))
		}
	}
}

// chooser makes choices from 0 to n-1.
type chooser func(n int) int

// any returns a command, in most cases one that may be OK.
func (pick chooser) any(m *model) api.Command {
	c := api.Command{Kind: api.CmdTick}
	if k := pick(16); k < api.CmdForget {
		c.Kind = k + 1
	}
	if pick(3) == 0 {
		c.Client = uint64(pick(3) + 1)
		c.Req = max(m.requests[c.Client]+2, uint64(pick(3))) - uint64(pick(3))
	}
	c.ID = uint64(pick([]int{4, 4, 24}[pick(3)]))
	switch c.Kind {
	case api.CmdNoop:
		c.ID = 0
	case api.CmdCalendar:
		c.ID %= 10
		c.Calendar = []api.Calendar{always, ten, never, {Offset: 5, Week: ten.Week, Closed: []api.Span{{From: 12, To: 40}}}}[pick(4)]
	case api.CmdContract:
		c.Terms = api.Contract{Calendar: pick(5), Retry: pick(3) + 1, Backoff: int64(pick(9) + 1)}
		for i := range pick(6) + 1 {
			c.Terms.Levels = append(c.Terms.Levels, api.Level{Budget: int64(pick(12) + 1), Party: (i + pick(4)) % api.MaxParties})
		}
	case api.CmdOpen:
		c.Contract = pick([]int{2, 2, 16}[pick(3)])
	case api.CmdTick:
		c.ID, c.At = 0, m.now+int64([]int{0, 1, 2, 3, 5, 9, 40, -1}[pick(8)])
		switch pick(200) {
		case 0:
			c.At = api.Horizon - int64(pick(40))
		case 1:
			c.At = m.now + api.Week
		}
	case api.CmdTry, api.CmdAcked:
		c.ID = m.notices - min(m.notices, c.ID*uint64(pick(4)))
	}
	return c
}

// course is a machine and a model that do the same, and what was seen of them.
type course struct {
	m     *sla.Machine
	model *model
	// Due by ID and number of each deadline that was armed and not met yet, and how often notices were tried.
	armed map[[2]uint64]int64
	tries map[uint64]int
	told  map[uint64]bool
}

func newCourse() *course {
	return &course{m: sla.New(), model: newModel(), armed: map[[2]uint64]int64{}, tries: map[uint64]int{}, told: map[uint64]bool{}}
}

// start adds two calendars and contracts.
func (c *course) start(t *testing.T) {
	t.Helper()
	for _, first := range []api.Command{lay(0, always), lay(1, ten), sign(0, terms(0, 1, 3, 5, 6, 7)), sign(1, terms(1, 2, 3, 5, 60))} {
		c.step(t, entry(t, first))
	}
}

// step lets both execute an entry, and returns what came of it.
func (c *course) step(t *testing.T, b []byte) sla.Output {
	t.Helper()
	before := c.m.Parts().Deadlines
	out, want := c.m.Apply(b), c.model.apply(b)
	if !sla.Same(out, want) {
		t.Fatalf("Apply(%x): %v, want %v", b, out, want)
	}
	wantModel(t, b, c.m, c.model)
	if !out.Again && out.Reply.Code == api.OK {
		c.follow(t, before, out)
	}
	return out
}

// follow checks what P21.5 says about an entry that was executed.
func (c *course) follow(t *testing.T, before deadline.State, out sla.Output) {
	t.Helper()
	after := c.m.Parts()
	if after.Deadlines.Now < before.Now {
		t.Fatalf("time %d after %d", after.Deadlines.Now, before.Now)
	}
	for i, id := range out.Reply.Fired {
		d := before.Armed[slices.IndexFunc(before.Armed, func(d slots.Thing) bool { return d.ID == id })]
		if due, ok := c.armed[[2]uint64{id, d.Gen}]; !ok || due <= before.Now || due > after.Deadlines.Now {
			t.Fatalf("deadline %v is met between %d and %d: %v", d, before.Now, after.Deadlines.Now, out)
		}
		delete(c.armed, [2]uint64{id, d.Gen})
		n := out.Reply.Notice + uint64(i)
		if c.told[n] {
			t.Fatalf("notice %d comes twice: %v", n, out)
		}
		c.told[n] = true
	}
	for _, d := range after.Deadlines.Armed {
		if d.Gen > before.Last {
			c.armed[[2]uint64{d.ID, d.Gen}] = d.Due
		}
	}
	if n := out.Sent; n.ID != 0 {
		if c.tries[n.ID]++; c.tries[n.ID] > n.Retry || c.tries[n.ID] != n.Tries {
			t.Fatalf("notice %v is tried %d times", n, c.tries[n.ID])
		}
	}
}

// replace goes on with a copy, or a machine with the same state.
func (c *course) replace(t *testing.T, clone bool) {
	t.Helper()
	if clone {
		c.m = c.m.Clone()
	} else {
		c.m = loaded(t, c.m.Parts())
	}
}

// P21.1 to P21.5: any commands, from a machine that is replaced now and then.
func TestAnyCommands(t *testing.T) {
	seen := map[int]map[api.Errno]int{}
	for seed := range uint64(60) {
		random := rand.New(rand.NewPCG(21, seed))
		pick := chooser(random.IntN)
		c := newCourse()
		if seed%4 > 0 {
			c.start(t)
		}
		for range 600 {
			next := pick.any(c.model)
			b := entry(t, next)
			if pick(50) == 0 {
				b[pick(len(b))] ^= byte(1 << pick(8))
			}
			out := c.step(t, b)
			if pick(10) == 0 {
				c.replace(t, pick(2) == 0)
			}
			if seen[next.Kind] == nil {
				seen[next.Kind] = map[api.Errno]int{}
			}
			seen[next.Kind][out.Reply.Code]++
		}
	}
	for kind := api.CmdNoop; kind <= api.CmdForget; kind++ {
		if seen[kind][api.OK] == 0 || seen[kind][api.ErrOld] == 0 || seen[kind][api.ErrForm] == 0 {
			t.Errorf("commands of kind %d: %v", kind, seen[kind])
		}
	}
}

// P21.2 and P21.5: as many tickets as there is room for, which come to their end.
func TestAnyCrowd(t *testing.T) {
	for seed := range uint64(6) {
		pick := chooser(rand.New(rand.NewPCG(210, seed)).IntN)
		c := newCourse()
		do := func(next api.Command) { c.step(t, entry(t, next)) }
		do(lay(0, always))
		for n := range uint64(6) {
			do(sign(n, terms(0, pick(2)+1, int64(pick(9)+1), []int64{3, 4, 5, 6, 7, 8}[:n+1]...)))
		}
		for range 700 {
			id := uint64(pick(70))
			switch k := pick(12); k {
			case 0, 1, 2, 3:
				do(open(id, pick(6)))
			case 4:
				do(tick(c.model.now + int64(pick(4))))
			case 5:
				do(with(api.CmdForget, id))
			case 6, 7:
				do(with(api.CmdPause+pick(4), id))
			default:
				do(with(api.CmdTry+k%2, c.model.notices-min(c.model.notices, 2*id)))
			}
		}
	}
}

// P21.1 to P21.5: one machine that gets its commands from bytes.
func FuzzCommands(f *testing.F) {
	f.Add([]byte{1, 0, 0, 0, 2, 0, 0, 0})
	f.Add([]byte("a coordinator of deadlines with an agreed time, whose tickets are opened, paused and resumed"))
	f.Fuzz(func(t *testing.T, b []byte) {
		pick := chooser(func(n int) int {
			if len(b) == 0 {
				return 0
			}
			k := int(b[0]) % n
			b = b[1:]
			return k
		})
		c := newCourse()
		c.start(t)
		for range 300 {
			if len(b) == 0 {
				break
			}
			if pick(20) == 0 {
				c.step(t, b[:pick(len(b)+1)])
				c.replace(t, pick(2) == 0)
			}
			c.step(t, entry(t, pick.any(c.model)))
		}
	})
}

// P21.1: what reply and session would reject does not come of any command.
func TestRepliesAreSound(t *testing.T) {
	m := base(t)
	for id := range uint64(api.MaxTickets) {
		all(t, m, open(id, 1))
	}
	out := do(t, m, by(8, 1, tick(15)))
	if len(out.Reply.Fired) != api.MaxTickets || !reply.Sound(out.Reply) || m.Last(8) != 1 {
		t.Errorf("output %v, Last %d", out, m.Last(8))
	}
}
