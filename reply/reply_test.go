package reply_test

import (
	"bytes"
	"math"
	"math/rand/v2"
	"slices"
	"testing"

	"curfew/api"
	"curfew/quill"
	"curfew/reply"
	"curfew/ticket"
)

// outside are numbers that are not instants.
var outside = []int64{-1, -2, math.MinInt64, math.MinInt64 + 1, api.Horizon + 1, 2 * api.Horizon, math.MaxInt64}

// running returns a sound ticket in that State, as the next three do.
func running() api.Ticket {
	return api.Ticket{ID: 77, Contract: 3, State: api.Running, Level: 1, Gen: 300, From: 10, Left: 5, Due: 15, Told: 1}
}

func paused() api.Ticket {
	return api.Ticket{ID: 77, Contract: 3, State: api.Paused, Level: 1, From: 10, Left: 5}
}

func spent() api.Ticket { return api.Ticket{State: api.Spent} }

func resolved() api.Ticket {
	return api.Ticket{ID: math.MaxUint64, Contract: api.MaxContracts - 1, State: api.Resolved, Level: api.MaxLevels - 1, Told: 1 << 31}
}

// whole returns a reply that has something in each of its fields.
func whole() api.Reply {
	return api.Reply{Code: api.ErrFull, Time: 300, Ticket: running(), Fired: []uint64{9, 0, 300}, Notice: 7, Dead: 2}
}

// changed returns the whole reply after a change.
func changed(change func(r *api.Reply)) api.Reply {
	r := whole()
	change(&r)
	return r
}

// ids returns n different IDs, which are not ascending.
func ids(n int) []uint64 {
	var l []uint64
	for i := range n {
		l = append(l, math.MaxUint64-uint64(7*i%64))
	}
	return l
}

// longest returns the reply whose encoding is longest.
func longest() api.Reply {
	t := api.Ticket{ID: math.MaxUint64, Contract: api.MaxContracts - 1, State: api.Running, Level: api.MaxLevels - 1, Gen: api.MaxIndex, From: api.Horizon / 2, Left: api.Horizon / 2, Due: api.Horizon, Told: 1 << 31}
	return api.Reply{Code: 99, Time: api.Horizon, Ticket: t, Fired: ids(api.MaxTickets), Notice: math.MaxUint64, Dead: api.MaxNotices}
}

// sound returns replies of all kinds, with each bound.
func sound() []api.Reply {
	l := []api.Reply{{}, whole(), longest(), {Ticket: spent()}, {Fired: []uint64{0}}, {Fired: []uint64{5, 5, 5}}, {Notice: 300}, {Dead: 1}}
	for _, code := range []api.Errno{api.OK, api.ErrNil, api.ErrNone, api.ErrBusy, 98, 99} {
		l = append(l, api.Reply{Code: code}, changed(func(r *api.Reply) { r.Code = code }))
	}
	for _, now := range []int64{0, 1, 255, 256, api.Horizon - 1, api.Horizon} {
		l = append(l, api.Reply{Time: now}, changed(func(r *api.Reply) { r.Time = now }))
	}
	for _, t := range []api.Ticket{{}, running(), paused(), spent(), resolved(), longest().Ticket} {
		l = append(l, api.Reply{Ticket: t}, changed(func(r *api.Reply) { r.Ticket = t }))
	}
	for _, n := range []int{0, 1, 2, api.MaxTickets - 1, api.MaxTickets} {
		l = append(l, api.Reply{Fired: ids(n)}, changed(func(r *api.Reply) { r.Fired = ids(n) }))
	}
	for _, n := range []uint64{0, 1, api.MaxIndex, api.MaxIndex + 1, math.MaxUint64} {
		l = append(l, changed(func(r *api.Reply) { r.Notice = n }))
	}
	for _, n := range []int{0, 1, api.MaxNotices - 1, api.MaxNotices} {
		l = append(l, changed(func(r *api.Reply) { r.Dead = n }))
	}
	return l
}

// strangers returns tickets that are neither zero nor sound.
func strangers() []api.Ticket {
	l := []api.Ticket{{ID: 1}, {Contract: 1}, {Level: 1}, {Gen: 1}, {From: 1}, {Left: 1}, {Due: 1}, {Told: 1}, {State: -1}, {State: api.Running}, {State: api.Paused}, {State: api.Resolved + 1}}
	for _, change := range []func(t *api.Ticket){
		func(t *api.Ticket) { t.State = 0 }, func(t *api.Ticket) { t.Gen = 0 }, func(t *api.Ticket) { t.Gen = api.MaxIndex + 1 }, func(t *api.Ticket) { t.Contract = api.MaxContracts }, func(t *api.Ticket) { t.Level = api.MaxLevels },
		func(t *api.Ticket) { t.Left = 0 }, func(t *api.Ticket) { t.Due = 14 }, func(t *api.Ticket) { t.Told = -1 }, func(t *api.Ticket) { t.Told = 1<<31 + 1 }, func(t *api.Ticket) { t.State = api.Paused },
	} {
		t := running()
		change(&t)
		l = append(l, t)
	}
	return l
}

// unsound returns replies that there cannot be.
func unsound() []api.Reply {
	var l []api.Reply
	for _, n := range []int{-1, -2, math.MinInt, math.MaxInt} {
		l = append(l, changed(func(r *api.Reply) { r.Code = api.Errno(n) }), changed(func(r *api.Reply) { r.Dead = n }), reply.Refused(api.Errno(n), 0), api.Reply{Dead: n})
	}
	for _, n := range []int{100, 101, 1 << 32, 1<<32 + 1} {
		l = append(l, changed(func(r *api.Reply) { r.Code = api.Errno(n) }), reply.Refused(api.Errno(n), 0))
	}
	for _, n := range []int{api.MaxNotices + 1, 1 << 32, 1<<32 + 1} {
		l = append(l, changed(func(r *api.Reply) { r.Dead = n }))
	}
	for _, now := range outside {
		l = append(l, changed(func(r *api.Reply) { r.Time = now }), reply.Refused(0, now))
	}
	for _, t := range strangers() {
		l = append(l, changed(func(r *api.Reply) { r.Ticket = t }), api.Reply{Ticket: t})
	}
	for _, n := range []int{api.MaxTickets + 1, 2 * api.MaxTickets, 300} {
		l = append(l, changed(func(r *api.Reply) { r.Fired = ids(n) }), api.Reply{Fired: ids(n)})
	}
	return l
}

func equal(a, b api.Reply) bool {
	return a.Code == b.Code && a.Time == b.Time && a.Ticket == b.Ticket && slices.Equal(a.Fired, b.Fired) && a.Notice == b.Notice && a.Dead == b.Dead
}

// zero reports whether nothing is in a reply, also no list.
func zero(r api.Reply) bool { return r.Fired == nil && equal(r, api.Reply{}) }

// byHand returns the encoding of a reply, as the chapter says.
func byHand(r api.Reply) []byte {
	var w quill.Writer
	w.Num(uint64(r.Code))
	w.Int(r.Time)
	if r.Ticket == (api.Ticket{}) {
		w.Num(0)
	} else {
		w.Num(1)
		ticket.Put(&w, r.Ticket)
	}
	w.Num(uint64(len(r.Fired)))
	for _, id := range r.Fired {
		w.Num(id)
	}
	w.Num(r.Notice)
	w.Num(uint64(r.Dead))
	return w.Bytes()
}

// put returns what Put writes.
func put(r api.Reply) []byte {
	var w quill.Writer
	reply.Put(&w, r)
	return w.Bytes()
}

// unread reads bytes that must be no reply.
func unread(t *testing.T, b []byte) {
	t.Helper()
	d := quill.Open(b)
	if r, ok := reply.Read(d); ok || !zero(r) || !d.Bad() {
		t.Errorf("% x: %v, %t, Bad %t", b, r, ok, d.Bad())
	}
}

// P19.2: the chapter's example, and other bytes written by hand.
func TestExample(t *testing.T) {
	for _, x := range []struct {
		r    api.Reply
		want []byte
	}{
		{reply.Refused(api.ErrNone, 0), []byte{1, 31, 0, 0, 0, 0, 0}}, {api.Reply{}, []byte{0, 0, 0, 0, 0, 0}}, {reply.Refused(99, 300), []byte{1, 99, 2, 1, 44, 0, 0, 0, 0}},
		{api.Reply{Fired: []uint64{300, 0, 1}, Notice: 300, Dead: 128}, []byte{0, 0, 0, 1, 3, 2, 1, 44, 0, 1, 1, 2, 1, 44, 1, 128}},
		{api.Reply{Ticket: spent()}, []byte{0, 0, 1, 1, 0, 0, 1, 3, 0, 0, 0, 0, 0, 0, 0, 0, 0}},
		{whole(), []byte{1, 30, 2, 1, 44, 1, 1, 1, 77, 1, 3, 1, 1, 1, 1, 2, 1, 44, 1, 10, 1, 5, 1, 15, 1, 1, 1, 3, 1, 9, 0, 2, 1, 44, 1, 7, 1, 2}},
	} {
		if got := put(x.r); !bytes.Equal(got, x.want) {
			t.Errorf("%v: % x, want % x", x.r, got, x.want)
		}
		if got, e := reply.Bytes(x.r); !bytes.Equal(got, x.want) || e != api.OK {
			t.Errorf("%v: % x, error %d, want % x", x.r, got, int(e), x.want)
		}
		d := quill.Open(x.want)
		if got, ok := reply.Read(d); !equal(got, x.r) || !ok || d.End() != api.OK {
			t.Errorf("% x: %v, %t, want %v", x.want, got, ok, x.r)
		}
	}
}

// P19.1
func TestSound(t *testing.T) {
	for _, r := range sound() {
		if !reply.Sound(r) {
			t.Errorf("%v is not sound", r)
		}
	}
	for _, r := range unsound() {
		if reply.Sound(r) {
			t.Errorf("%v is sound", r)
		}
	}
	// Code has all values between its bounds, as Dead does.
	for n := -3; n < 140; n++ {
		if got := reply.Sound(api.Reply{Code: api.Errno(n)}); got != (n >= 0 && n <= 99) {
			t.Errorf("Code %d: %t", n, got)
		}
		if got := reply.Sound(api.Reply{Dead: n}); got != (n >= 0 && n <= api.MaxNotices) {
			t.Errorf("Dead %d: %t", n, got)
		}
		if n >= 0 && reply.Sound(api.Reply{Fired: ids(n)}) != (n <= api.MaxTickets) {
			t.Errorf("%d are Fired", n)
		}
	}
}

// P19.1
func TestSame(t *testing.T) {
	all := append(sound(), unsound()...)
	for i, a := range all {
		for k, b := range all {
			if got := reply.Same(a, b); got != equal(a, b) || i == k && !got {
				t.Errorf("Same(%v, %v): %t", a, b, got)
			}
		}
	}
	for i, change := range []func(r *api.Reply){
		func(r *api.Reply) { r.Code++ }, func(r *api.Reply) { r.Time++ }, func(r *api.Reply) { r.Notice++ }, func(r *api.Reply) { r.Dead++ }, func(r *api.Reply) { r.Ticket = api.Ticket{} },
		func(r *api.Reply) { r.Ticket.ID++ }, func(r *api.Reply) { r.Ticket.Contract++ }, func(r *api.Reply) { r.Ticket.State++ }, func(r *api.Reply) { r.Ticket.Level++ }, func(r *api.Reply) { r.Ticket.Gen++ }, func(r *api.Reply) { r.Ticket.From++ }, func(r *api.Reply) { r.Ticket.Left++ }, func(r *api.Reply) { r.Ticket.Due++ }, func(r *api.Reply) { r.Ticket.Told++ },
		func(r *api.Reply) { r.Fired[0]++ }, func(r *api.Reply) { r.Fired[2]++ }, func(r *api.Reply) { r.Fired = r.Fired[:2] }, func(r *api.Reply) { r.Fired = r.Fired[1:] }, func(r *api.Reply) { r.Fired = append(r.Fired, 0) }, func(r *api.Reply) { r.Fired = nil }, func(r *api.Reply) { slices.Reverse(r.Fired) },
	} {
		if r := changed(change); reply.Same(r, whole()) || reply.Same(whole(), r) || !reply.Same(r, changed(change)) {
			t.Errorf("change %d: %v", i, r)
		}
	}
}

// P19.1, P19.2, general rule 3: an empty list is as good as none.
func TestEmptyList(t *testing.T) {
	a, b := changed(func(r *api.Reply) { r.Fired = []uint64{} }), changed(func(r *api.Reply) { r.Fired = nil })
	if !reply.Sound(a) || !reply.Same(a, b) || !reply.Same(b, a) || !bytes.Equal(put(a), put(b)) || len(reply.Copy(a).Fired)+len(reply.Copy(b).Fired) != 0 {
		t.Errorf("%v, %v", a, b)
	}
}

// P19.1
func TestCopy(t *testing.T) {
	for _, r := range append(sound(), unsound()...) {
		before := slices.Clone(r.Fired)
		got := reply.Copy(r)
		if !equal(got, r) {
			t.Errorf("Copy(%v): %v", r, got)
		}
		for i := range got.Fired {
			got.Fired[i]++
		}
		if !slices.Equal(r.Fired, before) {
			t.Errorf("%v shares memory with its copy", r)
		}
	}
	// Neither what is behind the list is shared.
	room := []uint64{1, 2, 3}
	got := reply.Copy(api.Reply{Fired: room[:1]})
	if got.Fired = append(got.Fired, 8); !slices.Equal(room, []uint64{1, 2, 3}) || !slices.Equal(got.Fired, []uint64{1, 8}) {
		t.Errorf("%v, %v", room, got)
	}
}

// P19.1
func TestRefused(t *testing.T) {
	for _, code := range []api.Errno{api.OK, api.ErrNil, api.ErrArg, api.ErrBusy, 99, 100, -1, math.MinInt, math.MaxInt} {
		for _, now := range append([]int64{0, 1, 300, api.Horizon}, outside...) {
			if got := reply.Refused(code, now); got.Code != code || got.Time != now || !zero(api.Reply{Ticket: got.Ticket, Fired: got.Fired, Notice: got.Notice, Dead: got.Dead}) {
				t.Errorf("Refused(%d, %d): %v", int(code), now, got)
			}
		}
	}
}

// P19.2: Put writes any reply behind what is there.
func TestPut(t *testing.T) {
	for _, r := range append(sound(), unsound()...) {
		if got := put(r); !bytes.Equal(got, byHand(r)) {
			t.Errorf("%v: % x, want % x", r, got, byHand(r))
		}
		var w quill.Writer
		w.Num(7)
		reply.Put(&w, r)
		reply.Put(&w, r)
		if want := slices.Concat([]byte{1, 7}, byHand(r), byHand(r)); !bytes.Equal(w.Bytes(), want) {
			t.Errorf("%v: % x, want % x", r, w.Bytes(), want)
		}
		reply.Put(nil, r)
	}
}

// P19.2
func TestBytes(t *testing.T) {
	for _, r := range sound() {
		got, e := reply.Bytes(r)
		if !bytes.Equal(got, byHand(r)) || e != api.OK {
			t.Errorf("%v: % x, error %d, want % x", r, got, int(e), byHand(r))
		}
		clear(got)
		if again, _ := reply.Bytes(r); !bytes.Equal(again, byHand(r)) {
			t.Errorf("%v: % x after its bytes were written to", r, again)
		}
	}
	for _, r := range unsound() {
		if got, e := reply.Bytes(r); got != nil || e != api.ErrArg {
			t.Errorf("%v: % x, error %d", r, got, int(e))
		}
	}
}

// P19.2, P19.3
func TestRead(t *testing.T) {
	for _, r := range sound() {
		b := byHand(r)
		for _, more := range [][]byte{nil, {0}, {1, 9}, b} {
			d := quill.Open(append(slices.Clone(b), more...))
			if got, ok := reply.Read(d); !equal(got, r) || !ok || d.Bad() || d.Left() != len(more) {
				t.Errorf("%v: %v, %t, Bad %t, Left %d", r, got, ok, d.Bad(), d.Left())
			}
		}
		for n := range b {
			unread(t, b[:n])
		}
	}
	// Two replies from the same bytes share nothing.
	b := byHand(whole())
	first, _ := reply.Read(quill.Open(b))
	clear(first.Fired)
	if again, ok := reply.Read(quill.Open(b)); !ok || !equal(again, whole()) {
		t.Errorf("%v, %t", again, ok)
	}
}

// P19.2: what there cannot be is not read.
func TestReadOfNoReply(t *testing.T) {
	for _, r := range unsound() {
		unread(t, byHand(r))
		unread(t, append(byHand(r), make([]byte, 300)...))
	}
	var w quill.Writer
	ticket.Put(&w, paused())
	good := [][]byte{{1, 30}, {2, 1, 44}, {1, 1}, w.Bytes(), {1, 2}, {1, 9}, {1, 5}, {1, 7}, {1, 2}}
	if r, ok := reply.Read(quill.Open(slices.Concat(good...))); !ok || !equal(r, api.Reply{Code: 30, Time: 300, Ticket: paused(), Fired: []uint64{9, 5}, Notice: 7, Dead: 2}) {
		t.Fatalf("%v, %t", r, ok)
	}
	for i := range good {
		// Numbers that are longer than needed, too long, or below 0.
		for _, bad := range [][]byte{{1, 0}, {2, 0, 1}, {129, 1}, {128}, {136, 255, 255, 255, 255, 255, 255, 255, 255}, {9, 1, 0, 0, 0, 0, 0, 0, 0, 0}} {
			l := slices.Clone(good)
			l[i] = bad
			unread(t, slices.Concat(l...))
		}
	}
	for _, x := range []struct {
		place int
		bad   []byte
	}{
		{0, []byte{1, 100}}, {0, []byte{5, 1, 0, 0, 0, 0}}, {1, []byte{8, 128, 0, 0, 0, 0, 0, 0, 0}}, {1, []byte{7, 4, 0, 0, 0, 0, 0, 1}}, {2, []byte{1, 2}}, {2, []byte{0}}, {2, []byte{2, 1, 1}},
		{4, []byte{1, 65}}, {4, []byte{1, 255}}, {4, []byte{8, 255, 255, 255, 255, 255, 255, 255, 255}}, {8, []byte{1, 129}}, {8, []byte{5, 1, 0, 0, 0, 0}},
		// A ticket that is zero has no encoding of its own.
		{3, make([]byte, 9)},
	} {
		l := slices.Clone(good)
		l[x.place] = x.bad
		unread(t, slices.Concat(l...))
	}
}

// P19.2: Readers that have nothing to read.
func TestReadOfNoReader(t *testing.T) {
	for _, d := range []*quill.Reader{nil, {}} {
		if r, ok := reply.Read(d); ok || !zero(r) {
			t.Errorf("no Reader: %v, %t", r, ok)
		}
	}
	d := quill.Open(byHand(whole()))
	d.Fail()
	if r, ok := reply.Read(d); ok || !zero(r) || !d.Bad() {
		t.Errorf("a bad Reader: %v, %t", r, ok)
	}
}

// General rule 4: arguments stay as they are, also behind their ends.
func TestArguments(t *testing.T) {
	room := []uint64{4, 5, 6, 7, 8}
	r := changed(func(r *api.Reply) { r.Fired = room[1:3] })
	reply.Sound(r)
	reply.Same(r, reply.Copy(r))
	put(r)
	reply.Bytes(r)
	b := byHand(r)
	before := slices.Clone(b)
	reply.Read(quill.Open(b[:len(b)-1]))
	reply.Read(quill.Open(b))
	if !slices.Equal(room, []uint64{4, 5, 6, 7, 8}) || !bytes.Equal(b, before) {
		t.Errorf("%v, % x", room, b)
	}
}

// anyReply returns a reply, which is mostly sound.
func anyReply(random *rand.Rand) api.Reply {
	r := api.Reply{Code: api.Errno(random.IntN(101)), Time: random.Int64N(1 << random.IntN(51)), Fired: ids(random.IntN(4)), Notice: random.Uint64() >> random.IntN(64), Dead: random.IntN(130)}
	if random.IntN(3) > 0 {
		r.Ticket = []api.Ticket{running(), paused(), spent(), resolved(), {ID: 1}}[random.IntN(5)]
	}
	return r
}

// P19.3: any replies one after the other.
func TestAnyReplies(t *testing.T) {
	random := rand.New(rand.NewPCG(19, 3))
	for range 300 {
		var w quill.Writer
		var all []api.Reply
		for range random.IntN(8) {
			r := anyReply(random)
			b, e := reply.Bytes(r)
			if (e == api.OK) != reply.Sound(r) {
				t.Fatalf("%v: error %d", r, int(e))
			}
			if e == api.OK {
				w.Raw(b)
				all = append(all, r)
			}
		}
		d := quill.Open(w.Bytes())
		var again quill.Writer
		for _, want := range all {
			got, ok := reply.Read(d)
			if !ok || !equal(got, want) {
				t.Fatalf("%v was read as %v, %t", want, got, ok)
			}
			reply.Put(&again, got)
		}
		if d.End() != api.OK || !bytes.Equal(again.Bytes(), w.Bytes()) {
			t.Fatalf("% x, % x", w.Bytes(), again.Bytes())
		}
	}
}

// P19.3: what is read as a reply is exactly its encoding, and the reply is sound.
func FuzzRead(f *testing.F) {
	for _, r := range append(sound(), unsound()...) {
		f.Add(byHand(r))
	}
	f.Fuzz(func(t *testing.T, b []byte) {
		d := quill.Open(b)
		r, ok := reply.Read(d)
		if ok == d.Bad() || ok && !reply.Sound(r) || !ok && !zero(r) {
			t.Fatalf("%v, %t, Bad %t", r, ok, d.Bad())
		}
		if !ok {
			return
		}
		if own, e := reply.Bytes(r); e != api.OK || !bytes.Equal(own, b[:len(b)-d.Left()]) {
			t.Fatalf("% x was read as %v, whose encoding is % x", b, r, own)
		}
	})
}
