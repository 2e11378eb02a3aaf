package sla

import (
	"curfew/api"
	"curfew/calendar"
	"curfew/command"
	"curfew/reply"
	"curfew/session"
	"curfew/slots"
	"curfew/ticket"
)

// Apply executes an entry, and returns what came of it.
func (m *Machine) Apply(entry []byte) Output {
	if !m.created() {
		return Output{}
	}
	m.index++
	c, e := command.Read(entry)
	out := Output{Index: m.index, Client: c.Client, Req: c.Req}
	what, remembered := m.sessions.Look(c.Client, c.Req)
	switch {
	case e != api.OK:
		out.Reply = reply.Refused(e, m.Time())
	case c.Client == 0:
		out.Reply, out.Sent = m.execute(c)
	case c.Req == 0:
		out.Reply = reply.Refused(api.ErrArg, m.Time())
	case what == session.Again:
		out.Reply, out.Again = remembered, true
	case what == session.Old:
		out.Reply = reply.Refused(api.ErrOld, m.Time())
	default:
		out.Reply, out.Sent = m.execute(c)
		m.sessions.Done(c.Client, c.Req, out.Reply)
	}
	return out
}

// execute does what a command asks for, and returns the reply and the notice that was tried.
func (m *Machine) execute(c api.Command) (api.Reply, api.Notice) {
	r, sent, e := m.perform(c)
	if e != api.OK {
		return reply.Refused(e, m.Time()), api.Notice{}
	}
	r.Time = m.Time()
	return r, sent
}

// perform does what a command asks for, and returns what is in its reply if there is no error, and the notice that was tried.
func (m *Machine) perform(c api.Command) (r api.Reply, sent api.Notice, e api.Errno) {
	switch c.Kind {
	case api.CmdCalendar:
		e = m.lay(c)
	case api.CmdContract:
		e = m.sign(c)
	case api.CmdOpen:
		if e = m.mayOpen(c.ID); e != api.OK {
			break
		}
		fallthrough
	case api.CmdPause, api.CmdResume, api.CmdResolve, api.CmdReopen:
		r.Ticket, e = m.change(c)
	case api.CmdForget:
		e = m.forget(c.ID)
	case api.CmdTick:
		r, e = m.tick(c.At)
	case api.CmdTry:
		r.Notice = c.ID
		sent, e = m.box.Try(c.ID, m.Time())
	case api.CmdAcked:
		r.Notice = c.ID
		_, e = m.box.Ack(c.ID)
	}
	return r, sent, e
}

func (m *Machine) lay(c api.Command) api.Errno {
	// Beyond the range of int, another number would be laid.
	if c.ID >= api.MaxCalendars {
		return api.ErrArg
	}
	return m.shelf.Lay(int(c.ID), c.Calendar)
}

func (m *Machine) sign(c api.Command) api.Errno {
	if c.ID >= api.MaxContracts {
		return api.ErrArg
	}
	return m.shelf.Sign(int(c.ID), c.Terms)
}

// mayOpen returns OK if there may be one more ticket, and one with that ID.
func (m *Machine) mayOpen(id uint64) api.Errno {
	_, there := m.tickets[id]
	switch {
	case there:
		return api.ErrThere
	case len(m.tickets) >= api.MaxTickets:
		return api.ErrFull
	}
	return api.OK
}

// change lets a command have its effect on a ticket, and returns the ticket.
func (m *Machine) change(c api.Command) (api.Ticket, api.Errno) {
	t, there := m.tickets[c.ID]
	begins := c.Kind == api.CmdReopen
	if c.Kind == api.CmdOpen {
		t, there, begins = api.Ticket{ID: c.ID, Contract: c.Contract}, true, true
	}
	k, terms, signed := m.terms(t.Contract)
	if !there || !signed {
		return api.Ticket{}, api.ErrNone
	}
	t, e := effect(c.Kind, m.Time())(t, k, terms)
	switch {
	case e != api.OK:
		return api.Ticket{}, e
	case begins && m.promised()+len(terms.Levels) > api.MaxNotices:
		return api.Ticket{}, api.ErrFull
	}
	return m.keep(t), api.OK
}

// effect returns what a kind of commands makes of a ticket. Of one that is opened, only ID and Contract are there before.
func effect(kind int, now int64) func(t api.Ticket, k *calendar.Clock, terms api.Contract) (api.Ticket, api.Errno) {
	return func(t api.Ticket, k *calendar.Clock, terms api.Contract) (api.Ticket, api.Errno) {
		switch kind {
		case api.CmdOpen:
			return ticket.Open(t.ID, t.Contract, k, terms, now)
		case api.CmdPause:
			return ticket.Pause(t, k, now)
		case api.CmdResume:
			return ticket.Resume(t, k, now)
		case api.CmdResolve:
			return ticket.Resolve(t)
		}
		return ticket.Reopen(t, k, terms, now)
	}
}

// keep keeps a ticket that has changed, with a new deadline if it is Running and without one otherwise, and returns it.
func (p *parts) keep(t api.Ticket) api.Ticket {
	if t.State == api.Running {
		// There is no error: fewer tickets than wheel.Most have an instant Due, and no run is long enough to use up the numbers.
		t.Gen, _ = p.book.Set(t.ID, t.Due)
	} else {
		p.book.Clear(t.ID)
	}
	p.tickets[t.ID] = t
	return t
}

// forget removes a ticket that is done.
func (m *Machine) forget(id uint64) api.Errno {
	t, there := m.tickets[id]
	switch {
	case !there:
		return api.ErrNone
	case t.State == api.Running || t.State == api.Paused:
		return api.ErrState
	}
	delete(m.tickets, id)
	return api.OK
}

// tick makes at the time, and returns what is in the reply.
func (m *Machine) tick(at int64) (api.Reply, api.Errno) {
	switch {
	case at < 0 || at > api.Horizon:
		return api.Reply{}, api.ErrArg
	case at <= m.Time():
		return api.Reply{}, api.ErrOld
	}
	var r api.Reply
	met, _ := m.book.Advance(at)
	for _, d := range met {
		notice := m.fire(d, at)
		if len(r.Fired) == 0 {
			r.Notice = notice
		}
		r.Fired = append(r.Fired, d.ID)
	}
	r.Dead = len(m.box.Tick(at))
	return r, api.OK
}

// fire lets the ticket of a deadline that was met go on, and returns the ID of the notice for the party.
func (p *parts) fire(d slots.Thing, now int64) uint64 {
	before := p.tickets[d.ID]
	k, terms, _ := p.terms(before.Contract)
	// Neither this nor Put has an error: only Running tickets have deadlines, and room for each notice was left when its ticket began.
	t, level, _ := ticket.Fire(before, k, terms, now)
	p.keep(t)
	id, _ := p.box.Put(api.Notice{Ticket: t.ID, Level: level, Party: terms.Levels[level].Party, Retry: terms.Retry, Wait: terms.Backoff}, now)
	return id
}
