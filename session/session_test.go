package session_test

import (
	"bytes"
	"math"
	"math/rand/v2"
	"slices"
	"testing"

	"curfew/api"
	"curfew/quill"
	"curfew/reply"
	"curfew/session"
)

// strangers are numbers that no client has.
var strangers = []uint64{0, api.MaxClients + 1, api.MaxClients + 2, 1 << 32, 1<<32 + 1, math.MaxUint64}

// reqs are numbers of requests, with each bound.
var reqs = []uint64{1, 2, 300, 1 << 32, api.MaxIndex, api.MaxIndex + 1, math.MaxUint64 - 1, math.MaxUint64}

// answer returns a sound reply that differs for each n.
func answer(n uint64) api.Reply {
	t := api.Ticket{ID: n, State: api.Paused, Left: 5}
	return api.Reply{Code: api.Errno(n % 100), Time: int64(n % 1000), Ticket: t, Fired: []uint64{n, 3, n}, Notice: n, Dead: int(n % 100)}
}

// replies returns sound replies of all kinds.
func replies() []api.Reply {
	return []api.Reply{
		{}, answer(0), answer(7), answer(math.MaxUint64), reply.Refused(api.ErrOld, 300), {Code: 99, Time: api.Horizon, Fired: slices.Repeat([]uint64{math.MaxUint64}, api.MaxTickets), Notice: math.MaxUint64, Dead: api.MaxNotices},
	}
}

// unsound returns replies that there cannot be.
func unsound() []api.Reply {
	return []api.Reply{
		{Code: -1}, {Code: 100}, {Time: -1}, {Time: api.Horizon + 1}, {Ticket: api.Ticket{ID: 1}}, {Ticket: api.Ticket{State: api.Running}}, {Fired: make([]uint64, api.MaxTickets+1)}, {Dead: -1}, {Dead: api.MaxNotices + 1},
	}
}

// row is what a table has for a client.
type row struct {
	client, req uint64
	reply       api.Reply
}

// tables returns what tables have, with each bound, in the order of the clients.
func tables() [][]row {
	full, high := []row{}, []row{}
	for client := uint64(1); client <= api.MaxClients; client++ {
		full = append(full, row{client, 10 * client, answer(client)})
		high = append(high, row{client, math.MaxUint64, replies()[5]})
	}
	l := [][]row{nil, full, high, full[1:], full[:len(full)-1], {full[2], full[6]}}
	for _, r := range full {
		l = append(l, []row{r})
	}
	for _, req := range reqs {
		l = append(l, []row{{2, 5, api.Reply{}}, {3, req, answer(req)}})
	}
	for _, r := range replies() {
		l = append(l, []row{{1, 5, r}, {8, 6, answer(6)}})
	}
	return l
}

// filled returns a table that has this.
func filled(t testing.TB, l []row) *session.Table {
	t.Helper()
	table := session.Empty()
	for _, x := range l {
		done(t, table, x.client, x.req, x.reply, api.OK)
	}
	return table
}

// done makes a Done that must return this.
func done(t testing.TB, table *session.Table, client, req uint64, r api.Reply, want api.Errno) {
	t.Helper()
	if e := table.Done(client, req, r); e != want {
		t.Fatalf("Done(%d, %d, %v): error %d, want %d", client, req, r, int(e), int(want))
	}
}

// wantLook compares what Look returns; except for Again that is no reply.
func wantLook(t *testing.T, what string, table *session.Table, client, req uint64, want int, r api.Reply) {
	t.Helper()
	got, again := table.Look(client, req)
	if got != want || !reply.Same(again, r) || want != session.Again && again.Fired != nil {
		t.Errorf("%s: Look(%d, %d): %d, %v, want %d, %v", what, client, req, got, again, want, r)
	}
}

// wantTable compares all that a table tells with what it has.
func wantTable(t *testing.T, what string, table *session.Table, l []row) {
	t.Helper()
	clients := slices.Clone(strangers)
	for client := uint64(1); client <= api.MaxClients; client++ {
		clients = append(clients, client)
	}
	for _, client := range clients {
		last, r := uint64(0), api.Reply{}
		for _, x := range l {
			if x.client == client {
				last, r = x.req, x.reply
			}
		}
		if got := table.Last(client); got != last {
			t.Errorf("%s: Last(%d): %d, want %d", what, client, got, last)
		}
		for _, req := range append([]uint64{0, last - 1, last, last + 1}, reqs...) {
			switch {
			case req > last:
				wantLook(t, what, table, client, req, session.New, api.Reply{})
			case req == last && req > 0:
				wantLook(t, what, table, client, req, session.Again, r)
			default:
				wantLook(t, what, table, client, req, session.Old, api.Reply{})
			}
		}
	}
	if got := written(table); !bytes.Equal(got, byHand(l)) {
		t.Errorf("%s: Put % x, want % x", what, got, byHand(l))
	}
}

// written returns what Put writes.
func written(table *session.Table) []byte {
	var w quill.Writer
	table.Put(&w)
	return w.Bytes()
}

// byHand returns the encoding of what a table has, as the chapter says.
func byHand(l []row) []byte {
	var w quill.Writer
	w.Num(uint64(len(l)))
	for _, x := range l {
		w.Num(x.client)
		w.Num(x.req)
		reply.Put(&w, x.reply)
	}
	return w.Bytes()
}

// unread reads bytes that must be no table.
func unread(t *testing.T, b []byte) {
	t.Helper()
	r := quill.Open(b)
	if table, ok := session.Read(r); ok || table != nil || !r.Bad() {
		t.Errorf("% x: %v, %t, Bad %t", b, table, ok, r.Bad())
	}
}

// P20.1: the chapter's example, and the values of what a request may be.
func TestExample(t *testing.T) {
	if session.New != 1 || session.Again != 2 || session.Old != 3 {
		t.Error("other values")
	}
	table := session.Empty()
	done(t, table, 1, 5, answer(9), api.OK)
	wantLook(t, "example", table, 1, 5, session.Again, answer(9))
	wantLook(t, "example", table, 1, 4, session.Old, api.Reply{})
	wantLook(t, "example", table, 1, 6, session.New, api.Reply{})
}

// P20.1
func TestLook(t *testing.T) {
	for _, l := range tables() {
		wantTable(t, "Look", filled(t, l), l)
	}
}

// P20.1: a request takes the place of the one before it, and of no other client's.
func TestDone(t *testing.T) {
	for client := uint64(1); client <= api.MaxClients; client++ {
		table := filled(t, []row{{3, 40, answer(3)}, {5, 50, answer(5)}})
		for i, req := range []uint64{51, 52, 300, 1 << 32, math.MaxUint64 - 1, math.MaxUint64} {
			r := replies()[i]
			done(t, table, client, req, r, api.OK)
			l := []row{{client, req, r}}
			if client != 3 {
				l = append(l, row{3, 40, answer(3)})
			}
			if client != 5 {
				l = append(l, row{5, 50, answer(5)})
			}
			slices.SortFunc(l, func(a, b row) int { return int(a.client) - int(b.client) })
			wantTable(t, "Done", table, l)
		}
	}
}

// P20.1: the errors of Done, of several ones the first, and that nothing changes with them.
func TestDoneErrors(t *testing.T) {
	for _, l := range tables() {
		table := filled(t, l)
		for _, client := range strangers {
			for _, req := range append([]uint64{0}, reqs...) {
				done(t, table, client, req, answer(1), api.ErrArg)
				done(t, table, client, req, unsound()[0], api.ErrArg)
			}
		}
		for client := uint64(1); client <= api.MaxClients; client++ {
			last := table.Last(client)
			for _, r := range unsound() {
				for _, req := range []uint64{0, last, last + 1, math.MaxUint64} {
					done(t, table, client, req, r, api.ErrArg)
				}
			}
			for _, req := range []uint64{0, last / 2, last - min(last, 1), last} {
				done(t, table, client, req, answer(1), api.ErrOld)
			}
		}
		wantTable(t, "Done with errors", table, l)
	}
}

// P20.1: who was forgotten begins anew.
func TestDrop(t *testing.T) {
	for _, l := range tables() {
		for i, x := range l {
			table := filled(t, l)
			if !table.Drop(x.client) {
				t.Errorf("Drop(%d) of %v: false", x.client, l)
			}
			rest := slices.Concat(l[:i], l[i+1:])
			wantTable(t, "Drop", table, rest)
			for _, client := range append([]uint64{x.client}, strangers...) {
				if table.Drop(client) {
					t.Errorf("Drop(%d) of %v: true", client, rest)
				}
			}
			wantTable(t, "Drop of nobody", table, rest)
			done(t, table, x.client, 1, answer(40), api.OK)
			wantTable(t, "Done after Drop", table, slices.Concat(l[:i], []row{{x.client, 1, answer(40)}}, l[i+1:]))
		}
	}
}

// P20.1
func TestClone(t *testing.T) {
	for _, l := range tables() {
		table := filled(t, l)
		other := table.Clone()
		if other == table {
			t.Error("a clone is the table itself")
		}
		wantTable(t, "clone", other, l)
		for client := uint64(1); client <= api.MaxClients; client++ {
			table.Drop(client)
			done(t, table, client, 3, answer(3), api.OK)
		}
		wantTable(t, "clone of what changed", other, l)
		again := other.Clone()
		for client := uint64(1); client <= api.MaxClients; client++ {
			other.Drop(client)
		}
		wantTable(t, "clone of a clone", again, l)
		wantTable(t, "empty", other, nil)
	}
}

// P20.1, general rule 4: what is handed in is not kept, and what is returned may be written to.
func TestApart(t *testing.T) {
	r := answer(9)
	table := session.Empty()
	done(t, table, 1, 5, r, api.OK)
	other := table.Clone()
	clear(r.Fired)
	wantLook(t, "after the argument changed", table, 1, 5, session.Again, answer(9))
	_, again := table.Look(1, 5)
	clear(again.Fired)
	wantLook(t, "after a result changed", table, 1, 5, session.Again, answer(9))
	wantLook(t, "after another one's result changed", other, 1, 5, session.Again, answer(9))
	room := []uint64{4, 5, 6}
	done(t, table, 1, 6, api.Reply{Fired: room[:1]}, api.OK)
	if _, again := table.Look(1, 6); !slices.Equal(append(again.Fired, 8), []uint64{4, 8}) || !slices.Equal(room, []uint64{4, 5, 6}) {
		t.Errorf("%v, %v", again, room)
	}
}

// P20.1, P20.2, general rule 1
func TestNoTable(t *testing.T) {
	plain := &session.Table{}
	for _, table := range []*session.Table{nil, plain, (*session.Table)(nil).Clone(), plain.Clone()} {
		for _, client := range []uint64{0, 1, api.MaxClients, api.MaxClients + 1} {
			for _, req := range []uint64{0, 1, math.MaxUint64} {
				wantLook(t, "no table", table, client, req, session.Old, api.Reply{})
				done(t, table, client, req, answer(1), api.ErrNil)
				done(t, table, client, req, unsound()[0], api.ErrNil)
			}
			if table.Last(client) != 0 || table.Drop(client) {
				t.Errorf("client %d of no table", client)
			}
		}
		if b := written(table); len(b) != 0 {
			t.Errorf("no table was written as % x", b)
		}
		table.Put(nil)
	}
	if session.Empty().Clone() == nil || (*session.Table)(nil).Clone() != nil || plain.Clone() == nil || plain.Clone() == plain {
		t.Error("other clones")
	}
	session.Empty().Put(nil)
}

// P20.2: bytes written by hand.
func TestPut(t *testing.T) {
	table := session.Empty()
	for _, x := range []struct {
		client, req uint64
		want        []byte
	}{
		{0, 0, []byte{0}}, {8, 300, []byte{1, 1, 1, 8, 2, 1, 44, 1, 31, 0, 0, 0, 0, 0}}, {2, 1, []byte{1, 2, 1, 2, 1, 1, 1, 31, 0, 0, 0, 0, 0, 1, 8, 2, 1, 44, 1, 31, 0, 0, 0, 0, 0}},
		{8, 301, []byte{1, 2, 1, 2, 1, 1, 1, 31, 0, 0, 0, 0, 0, 1, 8, 2, 1, 45, 1, 31, 0, 0, 0, 0, 0}},
	} {
		if x.client > 0 {
			done(t, table, x.client, x.req, reply.Refused(api.ErrNone, 0), api.OK)
		}
		if got := written(table); !bytes.Equal(got, x.want) {
			t.Errorf("% x, want % x", got, x.want)
		}
	}
	// What is there stays there.
	var w quill.Writer
	w.Num(7)
	table.Put(&w)
	if want := append([]byte{1, 7}, written(table)...); !bytes.Equal(w.Bytes(), want) {
		t.Errorf("% x, want % x", w.Bytes(), want)
	}
}

// P20.2: the order of the bytes is not that in which the clients came.
func TestAnyOrder(t *testing.T) {
	random := rand.New(rand.NewPCG(20, 2))
	for range 100 {
		l := tables()[random.IntN(len(tables()))]
		table := session.Empty()
		for _, i := range random.Perm(len(l)) {
			done(t, table, l[i].client, l[i].req, l[i].reply, api.OK)
		}
		wantTable(t, "any order", table, l)
	}
}

// P20.2
func TestRead(t *testing.T) {
	for _, l := range tables() {
		b := byHand(l)
		for _, more := range [][]byte{nil, {0}, {1, 9}, b} {
			r := quill.Open(append(slices.Clone(b), more...))
			table, ok := session.Read(r)
			if !ok || table == nil || r.Bad() || r.Left() != len(more) {
				t.Fatalf("%v: %t, Bad %t, Left %d", l, ok, r.Bad(), r.Left())
			}
			wantTable(t, "Read", table, l)
			// It can be used like any other one.
			if table.Last(4) < math.MaxUint64 {
				done(t, table, 4, math.MaxUint64, answer(4), api.OK)
			}
		}
		if len(b) > 3000 {
			continue
		}
		for n := range b {
			unread(t, b[:n])
		}
	}
}

// P20.2: what no table has is not read.
func TestReadOfNoTable(t *testing.T) {
	one := func(client uint64) row { return row{client, 5, answer(client)} }
	for _, l := range [][]row{
		{one(0)}, {one(9)}, {one(math.MaxUint64)}, {one(1<<32 + 1)}, {one(2), one(1)}, {one(2), one(2)}, {one(1), one(4), one(3)}, {one(1), one(4), one(4)}, {one(1), one(9)}, {one(0), one(1)}, {one(8), one(9)},
		// A client stands there once, also if its requests are ascending.
		{{2, 5, answer(1)}, {2, 6, answer(1)}}, {one(1), {4, 5, answer(1)}, {4, 300, answer(1)}}, {{2, 5, answer(1)}, {1, 6, answer(1)}},
		{{1, 0, answer(1)}}, {{1, 0, api.Reply{}}}, {one(1), {2, 0, answer(1)}}, {{1, 0, answer(1)}, one(2)},
		{one(1), one(2), one(3), one(4), one(5), one(6), one(7), one(8), one(9)}, {one(1), one(2), one(3), one(4), one(5), one(6), one(7), one(8), one(8)},
	} {
		unread(t, byHand(l))
		unread(t, append(byHand(l), make([]byte, 300)...))
	}
	for _, r := range unsound() {
		unread(t, byHand([]row{{1, 5, r}}))
		unread(t, byHand([]row{one(1), {2, 5, r}, one(3)}))
	}
	// Numbers that are longer than needed, too long, or below 0.
	for i := range 3 {
		for _, bad := range [][]byte{{1, 0}, {2, 0, 1}, {129, 1}, {128}, {9, 1, 0, 0, 0, 0, 0, 0, 0, 0}} {
			parts := [][]byte{{1, 1}, {1, 2}, {1, 3}, {1, 31}, {0}, {0}, {0}, {0}, {0}}
			if table, ok := session.Read(quill.Open(slices.Concat(parts...))); !ok || table.Last(2) != 3 {
				t.Fatalf("%v, %t", table, ok)
			}
			parts[i] = bad
			unread(t, slices.Concat(parts...))
		}
	}
	unread(t, []byte{1, 9})
	unread(t, []byte{8, 255, 255, 255, 255, 255, 255, 255, 255})
	unread(t, nil)
	for _, r := range []*quill.Reader{nil, {}} {
		if table, ok := session.Read(r); ok || table != nil {
			t.Errorf("no Reader: %v, %t", table, ok)
		}
	}
	bad := quill.Open([]byte{0})
	bad.Fail()
	if table, ok := session.Read(bad); ok || table != nil || !bad.Bad() {
		t.Errorf("a bad Reader: %v, %t", table, ok)
	}
}

// model is a table as lists of all that was done for each client since it was forgotten.
type model [api.MaxClients + 1][]row

func (m *model) rows() []row {
	var l []row
	for _, all := range m {
		if len(all) > 0 {
			l = append(l, all[len(all)-1])
		}
	}
	return l
}

// look says what a request is by a look at all that was done.
func (m *model) look(client, req uint64) int {
	what := session.New
	for _, x := range m[client] {
		if req == x.req {
			what = session.Again
		} else if req < x.req {
			what = session.Old
		}
	}
	return what
}

// P20.1, P20.2, P20.3: any calls, compared with a model; in between the table is cloned, or read from its bytes. No request is New once it was done.
func TestAnyCalls(t *testing.T) {
	random := rand.New(rand.NewPCG(20, 3))
	for range 60 {
		table, m := session.Empty(), &model{}
		reach := uint64(1) << (1 + random.IntN(9))
		for range 300 {
			client, req := 1+random.Uint64N(api.MaxClients), 1+random.Uint64N(reach)
			want, r := m.look(client, req), answer(random.Uint64())
			what, again := table.Look(client, req)
			if what != want || what == session.Again && !reply.Same(again, m[client][len(m[client])-1].reply) {
				t.Fatalf("Look(%d, %d): %d, %v, want %d", client, req, what, again, want)
			}
			if what == session.New {
				done(t, table, client, req, r, api.OK)
				m[client] = append(m[client], row{client, req, r})
				wantLook(t, "at once", table, client, req, session.Again, r)
			} else {
				done(t, table, client, req, r, api.ErrOld)
			}
			switch random.IntN(40) {
			case 0:
				table = table.Clone()
			case 1:
				table, _ = session.Read(quill.Open(written(table)))
			case 2:
				if got := table.Drop(client); got != (len(m[client]) > 0) {
					t.Fatalf("Drop(%d): %t", client, got)
				}
				m[client] = nil
			case 3:
				wantTable(t, "any calls", table, m.rows())
			}
			if t.Failed() {
				return
			}
		}
	}
}

// P20.2: what is read as a table is exactly its encoding.
func FuzzRead(f *testing.F) {
	for _, l := range tables() {
		f.Add(byHand(l))
	}
	f.Add(byHand([]row{{2, 5, answer(1)}, {1, 5, answer(1)}}))
	f.Add(byHand([]row{{2, 0, answer(1)}}))
	f.Fuzz(func(t *testing.T, b []byte) {
		r := quill.Open(b)
		table, ok := session.Read(r)
		if ok == r.Bad() || ok == (table == nil) {
			t.Fatalf("%v, %t, Bad %t", table, ok, r.Bad())
		}
		if !ok {
			return
		}
		if own := written(table); !bytes.Equal(own, b[:len(b)-r.Left()]) {
			t.Fatalf("% x was read as a table with % x", b, own)
		}
		for client := uint64(1); client <= api.MaxClients; client++ {
			last := table.Last(client)
			what, again := table.Look(client, last)
			if (last > 0) != (what == session.Again) || !reply.Sound(again) {
				t.Fatalf("Look(%d, %d): %d, %v", client, last, what, again)
			}
		}
	})
}
