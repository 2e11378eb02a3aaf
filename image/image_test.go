package image_test

import (
	"bytes"
	"encoding/hex"
	"math"
	"math/rand/v2"
	"slices"
	"testing"

	"curfew/api"
	"curfew/command"
	"curfew/contract"
	"curfew/deadline"
	"curfew/frame"
	"curfew/image"
	"curfew/outbox"
	"curfew/quill"
	"curfew/reply"
	"curfew/session"
	"curfew/sla"
	"curfew/slots"
	"curfew/ticket"
)

var (
	always = api.Calendar{Week: []api.Span{{From: 0, To: api.Week}}}
	ten    = api.Calendar{Offset: 3, Week: []api.Span{{From: 10, To: 20}}, Closed: []api.Span{{From: 12, To: 300}}}
	short  = api.Contract{Levels: []api.Level{{Budget: 10, Party: 1}, {Budget: 20, Party: 2}}, Retry: 2, Backoff: 5}
	long   = api.Contract{Calendar: 1, Levels: []api.Level{{Budget: 5}, {Budget: 6}, {Budget: 7}, {Budget: 8}, {Budget: 9}, {Budget: 10, Party: 7}}, Retry: 1, Backoff: 7}
	noop   = api.Command{Kind: api.CmdNoop}
)

func open(id uint64, contract int) api.Command {
	return api.Command{Kind: api.CmdOpen, ID: id, Contract: contract}
}

func tick(at int64) api.Command { return api.Command{Kind: api.CmdTick, At: at} }

func with(kind int, id uint64) api.Command { return api.Command{Kind: kind, ID: id} }

func by(client, req uint64, c api.Command) api.Command {
	c.Client, c.Req = client, req
	return c
}

// apply executes a command.
func apply(t testing.TB, m *sla.Machine, c api.Command) sla.Output {
	t.Helper()
	b, e := command.Bytes(c)
	if e != api.OK {
		t.Fatalf("%v: error %d", c, int(e))
	}
	return m.Apply(b)
}

// all executes commands that must be OK.
func all(t testing.TB, m *sla.Machine, l ...api.Command) *sla.Machine {
	t.Helper()
	for _, c := range l {
		if out := apply(t, m, c); out.Reply.Code != api.OK {
			t.Fatalf("%v: output %v", c, out)
		}
	}
	return m
}

// base returns a machine with calendars and contracts.
func base(t testing.TB) *sla.Machine {
	t.Helper()
	return all(t, sla.New(),
		api.Command{Kind: api.CmdCalendar, Calendar: always}, api.Command{Kind: api.CmdCalendar, ID: 1, Calendar: ten},
		api.Command{Kind: api.CmdContract, Terms: short}, api.Command{Kind: api.CmdContract, ID: 3, Terms: long})
}

// busy returns a machine with tickets in each State and requests.
func busy(t testing.TB) *sla.Machine {
	t.Helper()
	return all(t, base(t), by(1, 1, open(1, 0)), open(2, 0), open(math.MaxUint64, 3), open(4, 0), open(5, 3), tick(7), with(api.CmdPause, 4), with(api.CmdResolve, 5), tick(12), with(api.CmdResolve, 1), with(api.CmdReopen, 1),
		with(api.CmdTry, 1), with(api.CmdTry, 2), with(api.CmdAcked, 2), tick(32), by(8, 1<<40, tick(40)), by(3, 5, with(api.CmdPause, 1)))
}

// crowded returns a machine with as many tickets as there may be, all of which were fired.
func crowded(t testing.TB) *sla.Machine {
	t.Helper()
	m := base(t)
	for id := range uint64(api.MaxTickets) {
		all(t, m, open(id<<50, 0))
	}
	return all(t, m, by(7, 1, tick(10)), by(8, math.MaxUint64, tick(30)), with(api.CmdTry, 1))
}

// machines are of all kinds.
func machines(t testing.TB) []*sla.Machine {
	t.Helper()
	return []*sla.Machine{sla.New(), all(t, sla.New(), noop), all(t, sla.New(), by(1, 1, noop)), all(t, sla.New(), tick(api.Horizon)), base(t), all(t, base(t), open(7, 0)), busy(t), crowded(t)}
}

// byHand returns the encoding of a state.
func byHand(p sla.Parts) []byte {
	var w quill.Writer
	w.Num(p.Index)
	p.Shelf.Put(&w)
	w.Num(uint64(len(p.Tickets)))
	for _, x := range p.Tickets {
		ticket.Put(&w, x)
	}
	deadline.Put(&w, p.Deadlines)
	outbox.Put(&w, p.Box)
	p.Sessions.Put(&w)
	return w.Bytes()
}

// framed returns a frame.
func framed(t testing.TB, kind byte, body []byte) []byte {
	t.Helper()
	b, e := frame.Wrap(kind, body)
	if e != api.OK {
		t.Fatalf("Wrap(%d, %x): error %d", kind, body, int(e))
	}
	return b
}

// opened returns a machine that must exist.
func opened(t testing.TB, b []byte) *sla.Machine {
	t.Helper()
	m, e := image.Open(b)
	if m == nil || e != api.OK {
		t.Fatalf("Open(%x): error %d", b, int(e))
	}
	return m
}

// unopened opens what is no image.
func unopened(t *testing.T, what string, b []byte) {
	t.Helper()
	if m, e := image.Open(b); m != nil || e != api.ErrForm {
		t.Errorf("Open of %s %x: %v, error %d", what, b, m, int(e))
	}
}

// P22.1: the chapter's example.
func TestExample(t *testing.T) {
	if b := image.Body(sla.New()); !bytes.Equal(b, make([]byte, 10)) {
		t.Errorf("Body %x", b)
	}
}

// P22.1: an encoding that is written down in digits.
func TestDigits(t *testing.T) {
	m := all(t, sla.New(), api.Command{Kind: api.CmdCalendar, ID: 2, Calendar: always})
	terms := short
	terms.Calendar = 2
	all(t, m, api.Command{Kind: api.CmdContract, ID: 4, Terms: terms}, by(1, 9, open(7, 4)), tick(12), with(api.CmdPause, 7))
	want := "0105" + // Index
		"0101" + "0102" + "00" + "0101" + "00" + "03093a80" + "00" + // a calendar
		"0101" + "0104" + "0102" + "0102" + "010a" + "0101" + "0114" + "0102" + "0102" + "0105" + // a contract
		"0101" + "0107" + "0104" + "0102" + "0101" + "00" + "010c" + "0114" + "00" + "0101" + // a ticket
		"010c" + "0102" + "00" + // the deadlines
		"0101" + "0101" + "0101" + "0107" + "00" + "0101" + "0101" + "00" + "0102" + "0105" + "010c" + // the box
		"0101" + "0101" + "0109" + "00" + "00" + "0101" + "0107" + "0104" + "0101" + "00" + "0101" + "00" + "010a" + "010a" + "00" + "00" + "00" + "00" // the sessions
	if got := hex.EncodeToString(image.Body(m)); got != want {
		t.Errorf("Body %s, want %s", got, want)
	}
}

// P22.1
func TestBodyAndBytes(t *testing.T) {
	for _, m := range machines(t) {
		want := byHand(m.Parts())
		body := image.Body(m)
		if !bytes.Equal(body, want) || len(body) >= api.MaxText {
			t.Errorf("Body %x, want %x", body, want)
		}
		if b := image.Bytes(m); !bytes.Equal(b, framed(t, 9, want)) {
			t.Errorf("Bytes %x, want the frame of %x", b, want)
		}
		clear(body)
		if again := image.Body(m); !bytes.Equal(again, want) {
			t.Errorf("Body %x, want %x", again, want)
		}
	}
}

// P22.1: the longest Body is shorter than MaxText.
func TestLongestBody(t *testing.T) {
	rows := func(from, step int64) []api.Span {
		var l []api.Span
		for i := range int64(api.MaxSpans) {
			l = append(l, api.Span{From: from + i*step, To: from + i*step + 1})
		}
		return l
	}
	m := sla.New()
	for n := range uint64(api.MaxCalendars) {
		all(t, m, api.Command{Kind: api.CmdCalendar, ID: n, Calendar: api.Calendar{Offset: api.Week - 1, Week: rows(api.Week/2, 300), Closed: rows(api.Horizon/2, 1<<40)}})
	}
	for n := range uint64(api.MaxContracts) {
		c := api.Contract{Calendar: 7, Retry: api.MaxRetry, Backoff: api.MaxBackoff}
		for i := range api.MaxLevels {
			c.Levels = append(c.Levels, api.Level{Budget: api.Horizon, Party: i + 1})
		}
		all(t, m, api.Command{Kind: api.CmdContract, ID: n, Terms: c})
	}
	p := m.Parts()
	p.Index, p.Deadlines.Now, p.Deadlines.Last, p.Box.Last = api.MaxIndex/2, api.Horizon-1, api.MaxIndex/2, api.MaxIndex/2
	var fired []uint64
	for i := range uint64(api.MaxTickets) {
		x := api.Ticket{ID: math.MaxUint64 - api.MaxTickets + i, Contract: 15, State: api.Resolved, Level: 5, Told: 1 << 31}
		p.Tickets = append(p.Tickets, x)
		fired = append(fired, x.ID)
	}
	for i := range uint64(api.MaxNotices) {
		p.Box.Notices = append(p.Box.Notices, api.Notice{ID: api.MaxIndex/2 - api.MaxNotices + i, Ticket: math.MaxUint64, Level: 5, Party: 7, State: api.Dead, Tries: 8, Retry: 8, Wait: api.MaxBackoff, Next: api.Horizon})
	}
	for client := uint64(1); client <= api.MaxClients; client++ {
		r := api.Reply{Code: 99, Time: api.Horizon, Fired: fired, Notice: math.MaxUint64, Dead: api.MaxNotices, Ticket: api.Ticket{ID: math.MaxUint64, Contract: 15, State: api.Running, Level: 5, Gen: api.MaxIndex, Left: 1 << 49, Due: api.Horizon, Told: 1 << 31}}
		if p.Sessions.Done(client, math.MaxUint64, r) != api.OK {
			t.Fatalf("%v is not sound", r)
		}
	}
	m, why := sla.Load(p)
	if why != api.OK {
		t.Fatalf("Load(%v): error %d", p, int(why))
	}
	b := image.Bytes(m)
	// Running tickets have some 40 bytes more, with their deadlines.
	if len(b) < 10000 || len(b)+api.MaxTickets*64 >= api.MaxText {
		t.Errorf("%d bytes", len(b))
	}
	if other := opened(t, b); !image.Same(m, other) {
		t.Errorf("Body %x", image.Body(other))
	}
}

// P22.1, P22.2: what sla did not create.
func TestNotCreated(t *testing.T) {
	for _, m := range []*sla.Machine{nil, {}} {
		if b := image.Body(m); b != nil {
			t.Errorf("Body %x", b)
		}
		if b := image.Bytes(m); b != nil {
			t.Errorf("Bytes %x", b)
		}
		if !image.Same(m, nil) || !image.Same(m, &sla.Machine{}) || image.Same(m, sla.New()) || image.Same(sla.New(), m) {
			t.Errorf("Same of %v", m)
		}
	}
}

// P22.2 and P22.3: the machine that is opened has the original state.
func TestOpen(t *testing.T) {
	for _, m := range machines(t) {
		b := image.Bytes(m)
		given := append(slices.Clone(b), 1, 2, 3)
		other := opened(t, given[:len(b)])
		if !bytes.Equal(image.Bytes(other), b) || !bytes.Equal(byHand(other.Parts()), byHand(m.Parts())) || !image.Same(m, other) {
			t.Errorf("Bytes %x, want %x", image.Bytes(other), b)
		}
		if !bytes.Equal(given, append(slices.Clone(b), 1, 2, 3)) {
			t.Errorf("Open has changed %x", b)
		}
		// Nothing of the bytes is kept.
		clear(given)
		if !image.Same(m, other) {
			t.Errorf("Body %x after the bytes have changed", image.Body(other))
		}
	}
}

// P22.3: the machine that is opened continues like the original.
func TestContinues(t *testing.T) {
	for seed := range uint64(20) {
		random := rand.New(rand.NewPCG(22, seed))
		m := busy(t)
		other := opened(t, image.Bytes(m))
		for range 200 {
			id := uint64(random.IntN(6))
			c := []api.Command{open(id+2, 3*int(id%2)), tick(m.Time() + int64(id)), with(random.IntN(4)+api.CmdPause, id), with(api.CmdTry, id+1), with(api.CmdAcked, id+1), with(api.CmdForget, id)}[random.IntN(6)]
			if id == 0 {
				c = by(2, m.Last(2)+uint64(random.IntN(2)), c)
			}
			if a, b := apply(t, m, c), apply(t, other, c); !sla.Same(a, b) {
				t.Fatalf("%v: output %v, want %v", c, b, a)
			}
			other = opened(t, image.Bytes(other))
			if !image.Same(m, other) {
				t.Fatalf("%v: Body %x, want %x", c, image.Body(other), image.Body(m))
			}
		}
	}
}

// P22.2 and P22.3: frames that are truncated, changed, of another kind, or followed by something.
func TestOtherFrames(t *testing.T) {
	unopened(t, "nil", nil)
	for _, m := range machines(t) {
		b, body := image.Bytes(m), image.Body(m)
		for i := range b {
			unopened(t, "truncated", b[:i])
			changed := slices.Clone(b)
			changed[i] ^= 1 << (i % 8)
			unopened(t, "changed", changed)
		}
		unopened(t, "with more", append(slices.Clone(b), 0))
		unopened(t, "twice", slices.Concat(b, b))
		unopened(t, "without a frame", body)
		for kind := range 256 {
			if kind != 0 && kind != 9 {
				unopened(t, "of another kind", framed(t, byte(kind), body))
			}
		}
	}
}

// P22.2: frames with something else than a Body.
func TestOtherBodies(t *testing.T) {
	unopened(t, "an empty body", framed(t, 9, nil))
	unopened(t, "the longest body", framed(t, 9, make([]byte, api.MaxText)))
	for _, m := range machines(t) {
		body := image.Body(m)
		for i := range body {
			unopened(t, "a truncated body", framed(t, 9, body[:i]))
		}
		unopened(t, "a body with more", framed(t, 9, append(slices.Clone(body), 0)))
		unopened(t, "a body twice", framed(t, 9, slices.Concat(body, body)))
	}
	for i := range 10 {
		for _, l := range [][]byte{{1, 0}, {2, 0, 1}, {9, 0, 0, 0, 0, 0, 0, 0, 0, 0}, {0x80}, {0xff}} {
			body := slices.Concat(make([]byte, i), l, make([]byte, 9-i))
			unopened(t, "another number", framed(t, 9, body))
		}
	}
}

// P22.2: bodies whose state sla.Load rejects, or that its parts do not have.
func TestRejected(t *testing.T) {
	for what, change := range map[string]func(p *sla.Parts){
		"Index":              func(p *sla.Parts) { p.Index = api.MaxIndex/2 + 1 },
		"a greater Index":    func(p *sla.Parts) { p.Index = api.MaxIndex + 1 },
		"the greatest Index": func(p *sla.Parts) { p.Index = math.MaxUint64 },
		"Last of deadlines":  func(p *sla.Parts) { p.Deadlines.Last = api.MaxIndex/2 + 1 },
		"Last of the box":    func(p *sla.Parts) { p.Box.Last = api.MaxIndex/2 + 1 },
		"no shelf":           func(p *sla.Parts) { p.Shelf = nil },
		"an empty shelf":     func(p *sla.Parts) { p.Shelf = contract.New() },
		"no sessions":        func(p *sla.Parts) { p.Sessions = nil },
		"order":              func(p *sla.Parts) { p.Tickets[0], p.Tickets[1] = p.Tickets[1], p.Tickets[0] },
		"a ticket twice":     func(p *sla.Parts) { p.Tickets = append(p.Tickets, p.Tickets[len(p.Tickets)-1]) },
		"an unsound ticket":  func(p *sla.Parts) { p.Tickets[0].State = 0 },
		"another level":      func(p *sla.Parts) { p.Tickets[1].Level = 2 },
		"another contract":   func(p *sla.Parts) { p.Tickets[1].Contract = 2 },
		"one ticket less":    func(p *sla.Parts) { p.Tickets = p.Tickets[:3] },
		"no deadline":        func(p *sla.Parts) { p.Deadlines.Armed = nil },
		"another deadline": func(p *sla.Parts) {
			p.Deadlines.Armed = append(p.Deadlines.Armed, slots.Thing{ID: 99, Gen: 1, Due: 1 << 40})
		},
		"an unsound book":   func(p *sla.Parts) { p.Deadlines.Now = -1 },
		"another time":      func(p *sla.Parts) { p.Deadlines.Now = api.Horizon },
		"an unsound box":    func(p *sla.Parts) { p.Box.Last = 0 },
		"an unsound notice": func(p *sla.Parts) { p.Box.Notices[0].Tries = 3 },
	} {
		p := busy(t).Parts()
		change(&p)
		unopened(t, what, framed(t, 9, byHand(p)))
	}
	p := busy(t).Parts()
	p.Index = api.MaxIndex / 2
	opened(t, framed(t, 9, byHand(p)))
	// As many tickets as there may be, and one more.
	p = crowded(t).Parts()
	for i := range p.Tickets {
		p.Tickets[i].ID = uint64(i)
	}
	opened(t, framed(t, 9, byHand(p)))
	p.Tickets = append(p.Tickets, api.Ticket{ID: api.MaxTickets, State: api.Resolved})
	unopened(t, "65 tickets", framed(t, 9, byHand(p)))
}

// P22.2
func TestSame(t *testing.T) {
	l := machines(t)
	for i, a := range l {
		for j, b := range machines(t) {
			if got := image.Same(a, b); got != (i == j) {
				t.Errorf("Same of machines %d and %d: %t", i, j, got)
			}
		}
	}
	a, b := busy(t), busy(t)
	for _, c := range []api.Command{noop, tick(50), open(20, 0), by(5, 5, noop)} {
		apply(t, a, c)
		if image.Same(a, b) || image.Same(b, a) {
			t.Errorf("Same before and after %v", c)
		}
		apply(t, b, c)
		if !image.Same(a, b) {
			t.Errorf("not Same after %v", c)
		}
	}
	// Replies count that are only remembered.
	p := busy(t).Parts()
	p.Sessions = session.Empty()
	p.Sessions.Done(1, 1, reply.Refused(api.ErrNone, 0))
	q := p
	q.Sessions = session.Empty()
	q.Sessions.Done(1, 1, reply.Refused(api.ErrNone, 1))
	x, _ := sla.Load(p)
	y, _ := sla.Load(q)
	if x == nil || y == nil || image.Same(x, y) {
		t.Errorf("Same of %v and %v", x, y)
	}
}

// P22.2 and P22.3: a body that is accepted is that of its machine.
func FuzzOpen(f *testing.F) {
	for _, m := range machines(f) {
		f.Add(image.Body(m))
	}
	f.Fuzz(func(t *testing.T, body []byte) {
		b, e := frame.Wrap(9, body)
		if e != api.OK {
			return
		}
		m, e := image.Open(b)
		if e != api.OK {
			if m != nil || e != api.ErrForm {
				t.Fatalf("Open(%x): %v, error %d", b, m, int(e))
			}
			return
		}
		if got := image.Bytes(m); !bytes.Equal(got, b) {
			t.Fatalf("Bytes %x, want %x", got, b)
		}
		for _, at := range []int64{1, 100, 1 << 30, api.Horizon} {
			if out := apply(t, m, tick(m.Time()+at)); !reply.Sound(out.Reply) {
				t.Fatalf("output %v", out)
			}
			opened(t, image.Bytes(m))
		}
	})
}
