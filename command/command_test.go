package command_test

import (
	"bytes"
	"math"
	"math/rand/v2"
	"slices"
	"testing"

	"curfew/api"
	"curfew/calendar"
	"curfew/command"
	"curfew/contract"
	"curfew/quill"
)

// kinds are all kinds.
var kinds = []int{
	api.CmdNoop, api.CmdCalendar, api.CmdContract, api.CmdOpen, api.CmdPause, api.CmdResume,
	api.CmdResolve, api.CmdReopen, api.CmdTick, api.CmdTry, api.CmdAcked, api.CmdForget,
}

// What each kind has, by the chapter's words.
func hasID(kind int) bool       { return kind != api.CmdNoop && kind != api.CmdTick }
func hasContract(kind int) bool { return kind == api.CmdOpen }
func hasAt(kind int) bool       { return kind == api.CmdTick }
func hasCalendar(kind int) bool { return kind == api.CmdCalendar }
func hasTerms(kind int) bool    { return kind == api.CmdContract }

func terms() api.Contract {
	return api.Contract{Calendar: 3, Levels: []api.Level{{Budget: 300}, {Budget: 20, Party: 7}}, Retry: 2, Backoff: 5}
}

func hours() api.Calendar {
	return api.Calendar{Offset: 7, Week: row(10, 20, 30, 40), Closed: row(300, 301)}
}

// row returns the spans whose begins and ends are given.
func row(l ...int64) []api.Span {
	var r []api.Span
	for i := 0; i+1 < len(l); i += 2 {
		r = append(r, api.Span{From: l[i], To: l[i+1]})
	}
	return r
}

// bare returns the command of a kind whose other fields are zero as far as they may be.
func bare(kind int) api.Command {
	c := api.Command{Kind: kind}
	if hasTerms(kind) {
		c.Terms = terms()
	}
	return c
}

// plain returns a command of a kind that has something in each of its fields.
func plain(kind int) api.Command {
	c := bare(kind)
	c.Client, c.Req = 1, 300
	if hasID(kind) {
		c.ID = 9
	}
	if hasContract(kind) {
		c.Contract = 5
	}
	if hasAt(kind) {
		c.At = 301
	}
	if hasCalendar(kind) {
		c.Calendar = hours()
	}
	return c
}

// changed returns the plain command of a kind after a change.
func changed(kind int, change func(c *api.Command)) api.Command {
	c := plain(kind)
	change(&c)
	return c
}

// longest returns the command of a kind whose encoding is longest.
func longest(kind int) api.Command {
	c := api.Command{Kind: kind, Client: api.MaxClients, Req: math.MaxUint64}
	if hasID(kind) {
		c.ID = math.MaxUint64
	}
	if hasContract(kind) {
		c.Contract = api.MaxContracts - 1
	}
	if hasAt(kind) {
		c.At = math.MinInt64
	}
	if hasCalendar(kind) {
		c.Calendar.Offset = api.Week - 1
		for i := range int64(api.MaxSpans) {
			c.Calendar.Week = append(c.Calendar.Week, api.Span{From: api.Week - 200 + 3*i, To: api.Week - 198 + 3*i})
			c.Calendar.Closed = append(c.Calendar.Closed, api.Span{From: api.Horizon - 200 + 3*i, To: api.Horizon - 198 + 3*i})
		}
	}
	if hasTerms(kind) {
		c.Terms = api.Contract{Calendar: api.MaxCalendars - 1, Levels: slices.Repeat([]api.Level{{Budget: api.Horizon, Party: api.MaxParties - 1}}, api.MaxLevels), Retry: api.MaxRetry, Backoff: api.MaxBackoff}
	}
	return c
}

// sound returns commands of all kinds, with each bound.
func sound() []api.Command {
	var l []api.Command
	for _, k := range kinds {
		l = append(l, bare(k), plain(k), longest(k), changed(k, func(c *api.Command) { c.Client = 0 }), changed(k, func(c *api.Command) { c.Client = api.MaxClients }), changed(k, func(c *api.Command) { c.Req = 0 }), changed(k, func(c *api.Command) { c.Req = math.MaxUint64 }))
		if hasID(k) {
			l = append(l, changed(k, func(c *api.Command) { c.ID = 0 }), changed(k, func(c *api.Command) { c.ID = math.MaxUint64 }))
		}
		if hasContract(k) {
			l = append(l, changed(k, func(c *api.Command) { c.Contract = 0 }), changed(k, func(c *api.Command) { c.Contract = 1 }), changed(k, func(c *api.Command) { c.Contract = api.MaxContracts - 1 }))
		}
		if hasAt(k) {
			// A tick may be to any number.
			for _, at := range []int64{0, 1, -1, -300, api.Horizon, api.Horizon + 1, math.MaxInt64, math.MinInt64} {
				l = append(l, changed(k, func(c *api.Command) { c.At = at }))
			}
		}
		if hasCalendar(k) {
			l = append(l, changed(k, func(c *api.Command) { c.Calendar = api.Calendar{} }), changed(k, func(c *api.Command) { c.Calendar.Week = nil }), changed(k, func(c *api.Command) { c.Calendar.Closed = nil }), changed(k, func(c *api.Command) { c.Calendar.Closed = row(0, api.Horizon) }), changed(k, func(c *api.Command) { c.Calendar.Offset = api.Week - 1 }))
		}
		if hasTerms(k) {
			l = append(l, changed(k, func(c *api.Command) { c.Terms.Levels = c.Terms.Levels[:1] }), changed(k, func(c *api.Command) { c.Terms.Retry = api.MaxRetry }), changed(k, func(c *api.Command) { c.Terms.Calendar = 0 }))
		}
	}
	return l
}

// strange returns commands with something in a field that their kind does not have.
func strange(kind int) []api.Command {
	var l []api.Command
	add := func(has bool, changes ...func(c *api.Command)) {
		if has {
			return
		}
		for _, change := range changes {
			l = append(l, changed(kind, change))
		}
	}
	add(hasID(kind), func(c *api.Command) { c.ID = 1 }, func(c *api.Command) { c.ID = math.MaxUint64 })
	add(hasContract(kind), func(c *api.Command) { c.Contract = 1 }, func(c *api.Command) { c.Contract = api.MaxContracts - 1 })
	add(hasAt(kind), func(c *api.Command) { c.At = 1 }, func(c *api.Command) { c.At = -1 })
	add(hasCalendar(kind), func(c *api.Command) { c.Calendar = hours() }, func(c *api.Command) { c.Calendar.Offset = 1 }, func(c *api.Command) { c.Calendar.Week = row(10, 20) }, func(c *api.Command) { c.Calendar.Closed = row(10, 20) }, func(c *api.Command) { c.Calendar.Week = row(0, 0) })
	add(hasTerms(kind), func(c *api.Command) { c.Terms = terms() }, func(c *api.Command) { c.Terms.Calendar = 1 }, func(c *api.Command) { c.Terms.Levels = []api.Level{{}} }, func(c *api.Command) { c.Terms.Retry = 1 }, func(c *api.Command) { c.Terms.Backoff = 1 })
	return l
}

// unsound returns commands that there cannot be.
func unsound() []api.Command {
	var l []api.Command
	for _, k := range []int{0, -1, api.CmdForget + 1, 100, math.MinInt, math.MaxInt} {
		l = append(l, api.Command{Kind: k}, plain(k))
	}
	for _, k := range kinds {
		l = append(l, strange(k)...)
		for _, n := range []uint64{api.MaxClients + 1, 1 << 32, math.MaxUint64} {
			l = append(l, changed(k, func(c *api.Command) { c.Client = n }))
		}
		for _, n := range []int{-1, api.MaxContracts, math.MinInt, math.MaxInt} {
			l = append(l, changed(k, func(c *api.Command) { c.Contract = n }))
		}
	}
	for _, change := range []func(c *api.Calendar){
		func(c *api.Calendar) { c.Offset = -1 }, func(c *api.Calendar) { c.Offset = api.Week }, func(c *api.Calendar) { c.Week = row(5, 5) }, func(c *api.Calendar) { c.Week = row(30, 40, 10, 20) }, func(c *api.Calendar) { c.Week = row(0, api.Week+1) },
		func(c *api.Calendar) { c.Closed = row(5, 5) }, func(c *api.Calendar) { c.Closed = row(-1, 5) }, func(c *api.Calendar) { c.Closed = row(5, api.Horizon+1) }, func(c *api.Calendar) { c.Closed = slices.Repeat(row(5, 6), api.MaxSpans+1) },
	} {
		l = append(l, changed(api.CmdCalendar, func(c *api.Command) { change(&c.Calendar) }))
	}
	for _, change := range []func(c *api.Contract){
		func(c *api.Contract) { *c = api.Contract{} }, func(c *api.Contract) { c.Calendar = -1 }, func(c *api.Contract) { c.Calendar = api.MaxCalendars }, func(c *api.Contract) { c.Levels = nil }, func(c *api.Contract) { c.Levels = slices.Repeat(c.Levels, 4) },
		func(c *api.Contract) { c.Levels[1].Budget = 0 }, func(c *api.Contract) { c.Levels[0].Party = -1 }, func(c *api.Contract) { c.Retry = 0 }, func(c *api.Contract) { c.Retry = api.MaxRetry + 1 }, func(c *api.Contract) { c.Backoff = 0 }, func(c *api.Contract) { c.Backoff = api.MaxBackoff + 1 },
	} {
		l = append(l, changed(api.CmdContract, func(c *api.Command) { change(&c.Terms) }))
	}
	return l
}

func equal(a, b api.Command) bool {
	return a.Kind == b.Kind && a.Client == b.Client && a.Req == b.Req && a.ID == b.ID && a.Contract == b.Contract && a.At == b.At &&
		a.Calendar.Offset == b.Calendar.Offset && slices.Equal(a.Calendar.Week, b.Calendar.Week) && slices.Equal(a.Calendar.Closed, b.Calendar.Closed) &&
		a.Terms.Calendar == b.Terms.Calendar && slices.Equal(a.Terms.Levels, b.Terms.Levels) && a.Terms.Retry == b.Terms.Retry && a.Terms.Backoff == b.Terms.Backoff
}

// zero reports whether nothing is in a command, also no list.
func zero(c api.Command) bool {
	return equal(c, api.Command{}) && c.Calendar.Week == nil && c.Calendar.Closed == nil && c.Terms.Levels == nil
}

// byHand returns the encoding of a command that has these fields, as the chapter says.
func byHand(c api.Command) []byte {
	var w quill.Writer
	w.Num(uint64(c.Kind))
	w.Num(c.Client)
	w.Num(c.Req)
	switch c.Kind {
	case api.CmdCalendar:
		w.Num(c.ID)
		calendar.Put(&w, c.Calendar)
	case api.CmdContract:
		w.Num(c.ID)
		contract.Put(&w, c.Terms)
	case api.CmdOpen:
		w.Num(c.ID)
		w.Num(uint64(c.Contract))
	case api.CmdTick:
		w.Int(c.At)
	case api.CmdPause, api.CmdResume, api.CmdResolve, api.CmdReopen, api.CmdTry, api.CmdAcked, api.CmdForget:
		w.Num(c.ID)
	}
	return w.Bytes()
}

// encoded returns the encoding of a command that must have one.
func encoded(t testing.TB, c api.Command) []byte {
	t.Helper()
	b, e := command.Bytes(c)
	if e != api.OK {
		t.Fatalf("%v: error %d", c, int(e))
	}
	return b
}

// unread reads bytes that must be an error.
func unread(t *testing.T, b []byte, want api.Errno) {
	t.Helper()
	if c, e := command.Read(b); !zero(c) || e != want {
		t.Errorf("% x: %v, error %d, want error %d", b, c, int(e), int(want))
	}
}

// P18.2: the chapter's example, and bytes of the other kinds written by hand.
func TestExample(t *testing.T) {
	for _, x := range []struct {
		c    api.Command
		want []byte
	}{
		{api.Command{Kind: api.CmdNoop, Client: 1, Req: 2}, []byte{1, 1, 1, 1, 1, 2}}, {api.Command{Kind: api.CmdNoop}, []byte{1, 1, 0, 0}},
		{api.Command{Kind: api.CmdCalendar, Client: 8, Req: 300, ID: 4, Calendar: hours()}, []byte{1, 2, 1, 8, 2, 1, 44, 1, 4, 1, 7, 1, 2, 1, 10, 1, 20, 1, 30, 1, 40, 1, 1, 2, 1, 44, 2, 1, 45}},
		{api.Command{Kind: api.CmdContract, ID: 4, Terms: terms()}, []byte{1, 3, 0, 0, 1, 4, 1, 3, 1, 2, 2, 1, 44, 0, 1, 20, 1, 7, 1, 2, 1, 5}},
		{api.Command{Kind: api.CmdOpen, ID: 300, Contract: 15}, []byte{1, 4, 0, 0, 2, 1, 44, 1, 15}}, {api.Command{Kind: api.CmdPause, ID: 4}, []byte{1, 5, 0, 0, 1, 4}}, {api.Command{Kind: api.CmdResume, ID: 4}, []byte{1, 6, 0, 0, 1, 4}},
		{api.Command{Kind: api.CmdResolve, ID: 4}, []byte{1, 7, 0, 0, 1, 4}}, {api.Command{Kind: api.CmdReopen, ID: 4}, []byte{1, 8, 0, 0, 1, 4}}, {api.Command{Kind: api.CmdTick, At: 300}, []byte{1, 9, 0, 0, 2, 1, 44}}, {api.Command{Kind: api.CmdTick, At: -300}, []byte{1, 9, 0, 0, 130, 1, 43}},
		{api.Command{Kind: api.CmdTick}, []byte{1, 9, 0, 0, 0}}, {api.Command{Kind: api.CmdTry, ID: 4}, []byte{1, 10, 0, 0, 1, 4}}, {api.Command{Kind: api.CmdAcked, ID: 4}, []byte{1, 11, 0, 0, 1, 4}}, {api.Command{Kind: api.CmdForget, ID: 4}, []byte{1, 12, 0, 0, 1, 4}},
	} {
		if got, e := command.Bytes(x.c); !bytes.Equal(got, x.want) || e != api.OK {
			t.Errorf("%v: % x, error %d, want % x", x.c, got, int(e), x.want)
		}
		if got, e := command.Read(x.want); !equal(got, x.c) || e != api.OK {
			t.Errorf("% x: %v, error %d, want %v", x.want, got, int(e), x.c)
		}
	}
}

// P18.1
func TestNamed(t *testing.T) {
	for k := -20; k < 40; k++ {
		if got := command.Named(k); got != slices.Contains(kinds, k) {
			t.Errorf("Named(%d): %t", k, got)
		}
	}
	for _, k := range []int{math.MinInt, math.MaxInt, 1 << 32, 1<<32 + 1} {
		if command.Named(k) {
			t.Errorf("Named(%d)", k)
		}
	}
}

// P18.1, P18.2
func TestSound(t *testing.T) {
	for _, c := range sound() {
		if !command.Sound(c) {
			t.Errorf("%v is not sound", c)
		}
		if got, e := command.Bytes(c); !bytes.Equal(got, byHand(c)) || e != api.OK {
			t.Errorf("%v: % x, error %d, want % x", c, got, int(e), byHand(c))
		}
	}
	for _, c := range unsound() {
		if command.Sound(c) {
			t.Errorf("%v is sound", c)
		}
		if got, e := command.Bytes(c); got != nil || e != api.ErrArg {
			t.Errorf("%v: % x, error %d", c, got, int(e))
		}
	}
}

// P18.1, P18.2, general rule 3: an empty list is as good as none.
func TestEmptyLists(t *testing.T) {
	for _, k := range kinds {
		a := plain(k)
		if len(a.Calendar.Week) == 0 {
			a.Calendar.Week, a.Calendar.Closed = []api.Span{}, []api.Span{}
		}
		if len(a.Terms.Levels) == 0 {
			a.Terms.Levels = []api.Level{}
		}
		if !command.Sound(a) || !command.Same(a, plain(k)) || !bytes.Equal(encoded(t, a), encoded(t, plain(k))) {
			t.Errorf("%v with empty lists", a)
		}
	}
}

// P18.1
func TestSame(t *testing.T) {
	all := append(sound(), unsound()...)
	for i, a := range all {
		for k, b := range all {
			if got := command.Same(a, b); got != equal(a, b) || i == k && !got {
				t.Errorf("Same(%v, %v): %t", a, b, got)
			}
		}
	}
	whole := func() api.Command {
		return api.Command{Kind: 2, Client: 3, Req: 4, ID: 5, Contract: 6, At: 7, Calendar: hours(), Terms: terms()}
	}
	for i, change := range []func(c *api.Command){
		func(c *api.Command) { c.Kind++ }, func(c *api.Command) { c.Client++ }, func(c *api.Command) { c.Req++ }, func(c *api.Command) { c.ID++ }, func(c *api.Command) { c.Contract++ }, func(c *api.Command) { c.At++ },
		func(c *api.Command) { c.Calendar.Offset++ }, func(c *api.Command) { c.Calendar.Week[1].From++ }, func(c *api.Command) { c.Calendar.Week[1].To++ }, func(c *api.Command) { c.Calendar.Week = c.Calendar.Week[:1] }, func(c *api.Command) { c.Calendar.Closed[0].To++ }, func(c *api.Command) { c.Calendar.Closed = nil },
		func(c *api.Command) { c.Terms.Calendar++ }, func(c *api.Command) { c.Terms.Levels[1].Budget++ }, func(c *api.Command) { c.Terms.Levels[0].Party++ }, func(c *api.Command) { c.Terms.Levels = c.Terms.Levels[:1] }, func(c *api.Command) { c.Terms.Retry++ }, func(c *api.Command) { c.Terms.Backoff++ },
	} {
		c := whole()
		if !command.Same(c, whole()) {
			t.Errorf("%v is not the same as itself", c)
		}
		change(&c)
		if command.Same(c, whole()) || command.Same(whole(), c) {
			t.Errorf("the same after change %d: %v", i, c)
		}
	}
}

// P18.2: no encoding is too long for Read.
func TestLongest(t *testing.T) {
	for _, k := range kinds {
		b := encoded(t, longest(k))
		if len(b) > api.MaxCommand {
			t.Errorf("kind %d: %d bytes", k, len(b))
		}
		if c, e := command.Read(b); !equal(c, longest(k)) || e != api.OK {
			t.Errorf("kind %d: %v, error %d", k, c, int(e))
		}
	}
}

// P18.2, P18.3
func TestRead(t *testing.T) {
	for _, c := range sound() {
		b := encoded(t, c)
		if got, e := command.Read(b); !equal(got, c) || e != api.OK {
			t.Errorf("%v: %v, error %d", c, got, int(e))
		}
		for n := range b {
			unread(t, b[:n], api.ErrForm)
		}
		unread(t, append(slices.Clone(b), 0), api.ErrForm)
		unread(t, append(slices.Clone(b), b...), api.ErrForm)
		long := append(slices.Clone(b), make([]byte, api.MaxCommand)...)
		unread(t, long[:api.MaxCommand], api.ErrForm)
		unread(t, long[:api.MaxCommand+1], api.ErrLong)
		unread(t, long, api.ErrLong)
	}
	for _, c := range unsound() {
		// With something in another field it would be the encoding of another command.
		if !slices.ContainsFunc(sound(), func(d api.Command) bool { return bytes.Equal(encoded(t, d), byHand(c)) }) {
			unread(t, byHand(c), api.ErrForm)
		}
	}
	for _, n := range []int{0, 1, 3, 4, api.MaxCommand} {
		unread(t, make([]byte, n), api.ErrForm)
		unread(t, bytes.Repeat([]byte{255}, n), api.ErrForm)
	}
	for _, n := range []int{api.MaxCommand + 1, 1 << 16} {
		unread(t, make([]byte, n), api.ErrLong)
	}
	unread(t, nil, api.ErrForm)
}

// P18.2: numbers that are longer than needed, below 0, or the same as others modulo 2^32 or 2^64.
func TestNumbers(t *testing.T) {
	odd := [][]byte{{1, 0}, {2, 0, 1}, {129, 1}, {128}, {9, 1, 0, 0, 0, 0, 0, 0, 0, 0}}
	above := [][]byte{{5, 1, 0, 0, 0, 1}, {8, 255, 255, 255, 255, 255, 255, 255, 255}}
	try := func(parts [][]byte, i int, bad [][]byte) {
		for _, b := range bad {
			l := slices.Clone(parts)
			l[i] = b
			unread(t, slices.Concat(l...), api.ErrForm)
		}
	}
	open := [][]byte{{1, 4}, {1, 1}, {1, 1}, {1, 77}, {1, 1}}
	for i := range open {
		try(open, i, odd)
	}
	for _, i := range []int{0, 1, 4} {
		try(open, i, above)
		try(open, i, [][]byte{{1, 16}, {1, 255}})
	}
	tick := [][]byte{{1, 9}, {1, 1}, {1, 1}, {1, 77}}
	try(tick, 3, [][]byte{{1, 0}, {2, 0, 1}, {129, 0}, {9, 1, 0, 0, 0, 0, 0, 0, 0, 0}, {8, 128, 0, 0, 0, 0, 0, 0, 0}, {136, 128, 0, 0, 0, 0, 0, 0, 0}})
}

// P18.2, P18.3, general rule 4: commands and their bytes are apart.
func TestApart(t *testing.T) {
	for _, k := range kinds {
		c := plain(k)
		b := encoded(t, c)
		if !equal(c, plain(k)) {
			t.Errorf("Bytes changed its argument to %v", c)
		}
		before := slices.Clone(b)
		got, _ := command.Read(b)
		if !bytes.Equal(b, before) {
			t.Errorf("Read changed its argument to % x", b)
		}
		for i := range b {
			b[i] = 99
		}
		if !equal(got, plain(k)) || !bytes.Equal(encoded(t, c), before) {
			t.Errorf("a write to bytes gave %v", got)
		}
	}
}

// anyCommand returns a command that may be sound.
func anyCommand(random *rand.Rand) api.Command {
	k := kinds[random.IntN(len(kinds))]
	c := bare(k)
	c.Client, c.Req = random.Uint64N(api.MaxClients+1), random.Uint64()>>random.IntN(64)
	if hasID(k) {
		c.ID = random.Uint64() >> random.IntN(64)
	}
	if hasContract(k) {
		c.Contract = random.IntN(api.MaxContracts)
	}
	if hasAt(k) {
		c.At = int64(random.Uint64()) >> random.IntN(64)
	}
	if hasCalendar(k) {
		c.Calendar = api.Calendar{Offset: random.Int64N(api.Week), Week: anyRow(random, api.Week), Closed: anyRow(random, api.Horizon)}
	}
	if hasTerms(k) {
		c.Terms = api.Contract{Calendar: random.IntN(api.MaxCalendars), Retry: 1 + random.IntN(api.MaxRetry), Backoff: 1 + random.Int64N(api.MaxBackoff)}
		for range 1 + random.IntN(api.MaxLevels) {
			c.Terms.Levels = append(c.Terms.Levels, api.Level{Budget: 1 + random.Int64N(api.Horizon), Party: random.IntN(api.MaxParties)})
		}
	}
	return c
}

// anyRow returns a row of spans up to most.
func anyRow(random *rand.Rand, most int64) []api.Span {
	var l []api.Span
	at := int64(0)
	for range random.IntN(api.MaxSpans + 1) {
		from := at + 1 + random.Int64N(most/100)
		at = from + 1 + random.Int64N(most/100)
		l = append(l, api.Span{From: from, To: at})
	}
	return l
}

// P18.3: any command is decoded as it was, and no other bytes are its encoding.
func TestAnyCommand(t *testing.T) {
	random := rand.New(rand.NewPCG(18, 3))
	for range 3000 {
		c := anyCommand(random)
		b := encoded(t, c)
		if got, e := command.Read(b); !command.Sound(c) || !equal(got, c) || e != api.OK || !bytes.Equal(b, byHand(c)) {
			t.Fatalf("%v: % x was read as %v, error %d", c, b, got, int(e))
		}
		b[random.IntN(len(b))] ^= 1 << random.IntN(8)
		got, e := command.Read(b)
		if e != api.OK && (e != api.ErrForm || !zero(got)) || e == api.OK && (equal(got, c) || !bytes.Equal(encoded(t, got), b)) {
			t.Fatalf("%v: % x was read as %v, error %d", c, b, got, int(e))
		}
	}
}

// P18.3: what is read as a command is exactly its encoding, and the command is sound.
func FuzzRead(f *testing.F) {
	for _, c := range sound() {
		f.Add(encoded(f, c))
	}
	for _, c := range unsound() {
		f.Add(byHand(c))
	}
	f.Fuzz(func(t *testing.T, b []byte) {
		c, e := command.Read(b)
		switch {
		case len(b) > api.MaxCommand:
			if !zero(c) || e != api.ErrLong {
				t.Fatalf("%d bytes: %v, error %d", len(b), c, int(e))
			}
		case e != api.OK:
			if !zero(c) || e != api.ErrForm {
				t.Fatalf("% x: %v, error %d", b, c, int(e))
			}
		case !command.Sound(c) || !command.Named(c.Kind) || !bytes.Equal(encoded(t, c), b):
			t.Fatalf("% x was read as %v", b, c)
		}
	})
}
