package wire_test

import (
	"bytes"
	"math"
	"math/rand/v2"
	"slices"
	"strings"
	"testing"

	"curfew/api"
	"curfew/frame"
	"curfew/quill"
	"curfew/segment"
	"curfew/snapshot"
	"curfew/wire"
)

// end is the greatest index of a message.
const end = api.MaxIndex / 2

// kinds are all kinds.
var kinds = []int{wire.AskPre, wire.PreAnswer, wire.AskVote, wire.VoteAnswer, wire.Append, wire.Answer, wire.Install, wire.Now}

// has are the names of the fields of each kind after Term, in their order, by the chapter's words.
var has = [9]string{"", "Index LogTerm", "Ok", "Index LogTerm Force", "Ok", "Index LogTerm Commit Round Entries", "Ok Index Round", "Round Snap", ""}

// names are those of all such fields.
var names = []string{"Index", "LogTerm", "Commit", "Round", "Ok", "Force", "Entries", "Snap"}

// of reports whether a kind has a field.
func of(kind int, name string) bool {
	return kind >= 1 && kind <= 8 && slices.Contains(strings.Fields(has[kind]), name)
}

func entry(term uint64, kind int, data string) api.Entry {
	return api.Entry{Term: term, Kind: kind, Data: []byte(data)}
}

// row is the encoding of the row 0, 1, 2.
const row = "\x01\x07"

// log returns entries of each kind.
func log() []api.Entry {
	return []api.Entry{entry(4, api.EntNoop, ""), entry(4, api.EntCommand, "abc"), entry(5, api.EntMembers, row), entry(7, api.EntCommand, "\x00\xff")}
}

func snap() api.Snap {
	return api.Snap{Index: 300, Term: 6, Members: []int{0, 2, 5}, Data: []byte("data")}
}

// give sets a field to what is sound in each kind that has it.
func give(m *wire.Message, name string) {
	switch name {
	case "Index":
		m.Index = 300
	case "LogTerm":
		m.LogTerm = 3
	case "Commit":
		m.Commit = 256
	case "Round":
		m.Round = 70000
	case "Ok":
		m.Ok = true
	case "Force":
		m.Force = true
	case "Entries":
		m.Entries = log()
	case "Snap":
		m.Snap = snap()
	}
}

// bare returns a message that has only what each kind has.
func bare(kind int) wire.Message {
	m := wire.Message{Kind: kind, From: 1, To: 2, Term: 7}
	if of(kind, "Snap") {
		m.Snap = api.Snap{Index: 1, Term: 1, Members: []int{0}}
	}
	return m
}

// whole returns a message that has something in each field of its kind.
func whole(kind int) wire.Message {
	m := bare(kind)
	for _, name := range names {
		if of(kind, name) {
			give(&m, name)
		}
	}
	return m
}

// changed returns the whole message of a kind after a change.
func changed(kind int, change func(m *wire.Message)) wire.Message {
	m := whole(kind)
	change(&m)
	return m
}

// longest returns the message of a kind that has the longest encoding.
func longest(kind int) wire.Message {
	m := wire.Message{Kind: kind, From: 6, To: 5, Term: api.MaxIndex}
	for _, name := range strings.Fields(has[kind]) {
		switch name {
		case "Index":
			m.Index = end
			if kind == wire.Append {
				m.Index = end - api.MaxBatch
			}
		case "LogTerm":
			m.LogTerm = api.MaxIndex
		case "Commit":
			m.Commit = end
		case "Round":
			m.Round = api.MaxIndex
		case "Entries":
			m.Entries = slices.Repeat([]api.Entry{{Term: api.MaxIndex, Kind: api.EntCommand, Data: bytes.Repeat([]byte{0xee}, api.MaxData)}}, api.MaxBatch)
		case "Snap":
			m.Snap = api.Snap{Index: end - 1, Term: api.MaxIndex, Members: []int{0, 1, 2, 3, 4, 5, 6}, Data: bytes.Repeat([]byte{0xdd}, snapshot.Most)}
		default:
			give(&m, name)
		}
	}
	return m
}

// sound returns messages of each kind, with each bound.
func sound() []wire.Message {
	var l []wire.Message
	for _, kind := range kinds {
		l = append(l, bare(kind), whole(kind), longest(kind))
		for _, name := range strings.Fields(has[kind]) {
			m := bare(kind)
			give(&m, name)
			l = append(l, m)
		}
		for _, ends := range [][2]int{{0, 6}, {6, 0}, {0, 1}, {1, 0}, {5, 6}} {
			l = append(l, changed(kind, func(m *wire.Message) { m.From, m.To = ends[0], ends[1] }))
		}
		for _, term := range []uint64{7, 8, 256, api.MaxIndex - 1, api.MaxIndex} {
			l = append(l, changed(kind, func(m *wire.Message) { m.Term = term }))
		}
		// Of whatever log they tell, the term is at least 1.
		m := bare(kind)
		m.Term = 1
		l = append(l, m)
	}
	return append(append(l, soundNumbers()...), append(soundEntries(), soundSnaps()...)...)
}

// soundNumbers returns messages with the bounds of their numbers.
func soundNumbers() []wire.Message {
	var l []wire.Message
	for _, kind := range kinds {
		for _, n := range []uint64{0, 1, 255, 256, end - 5, end - 4} {
			if of(kind, "Index") {
				l = append(l, changed(kind, func(m *wire.Message) { m.Index = n }))
			}
		}
		for _, n := range []uint64{end - 3, end - 1, end} {
			if of(kind, "Index") {
				l = append(l, changed(kind, func(m *wire.Message) { m.Index, m.Entries = n, nil }))
			}
			if of(kind, "Commit") {
				l = append(l, changed(kind, func(m *wire.Message) { m.Commit = n }))
			}
		}
		for _, n := range []uint64{0, 1, end, end + 1, api.MaxIndex - 1, api.MaxIndex} {
			if of(kind, "Round") {
				l = append(l, changed(kind, func(m *wire.Message) { m.Round = n }))
			}
		}
		for _, n := range []uint64{0, 1, 4, 5, 6, 7} {
			if of(kind, "LogTerm") {
				l = append(l, changed(kind, func(m *wire.Message) { m.LogTerm, m.Entries = n, nil }))
			}
		}
	}
	return l
}

// appends returns messages that append these entries after LogTerm 3, in term 7.
func appends(lists ...[]api.Entry) []wire.Message {
	var l []wire.Message
	for _, entries := range lists {
		l = append(l, changed(wire.Append, func(m *wire.Message) { m.Entries = entries }))
	}
	return l
}

// terms returns entries with these terms.
func terms(l ...uint64) []api.Entry {
	var entries []api.Entry
	for _, term := range l {
		entries = append(entries, api.Entry{Term: term, Kind: api.EntNoop})
	}
	return entries
}

// soundEntries returns messages with entries that may follow each other.
func soundEntries() []wire.Message {
	l := appends(
		nil, []api.Entry{}, terms(3), terms(7), terms(3, 7), terms(3, 3, 4, 4, 7, 7), terms(7, 7, 7, 7, 7, 7, 7, 7), terms(3, 3, 3, 3, 3, 3, 3), slices.Repeat([]api.Entry{entry(5, api.EntCommand, "x")}, api.MaxBatch),
		[]api.Entry{entry(3, api.EntNoop, "no row")}, []api.Entry{entry(3, api.EntCommand, "no row")}, []api.Entry{{Term: 3, Kind: api.EntCommand, Data: make([]byte, api.MaxData)}}, []api.Entry{{Term: 3, Kind: api.EntNoop, Data: make([]byte, api.MaxData-1)}},
	)
	for set := 1; set < 1<<api.MaxNodes; set++ {
		l = append(l, appends([]api.Entry{entry(3, api.EntMembers, "\x01"+string([]byte{byte(set)}))})...)
	}
	for n := range api.MaxBatch + 1 {
		l = append(l, changed(wire.Append, func(m *wire.Message) { m.Index, m.Entries = end-uint64(n), terms(7, 7, 7, 7, 7, 7, 7, 7)[:n] }))
	}
	return append(l, changed(wire.Append, func(m *wire.Message) { m.Term, m.LogTerm, m.Entries = 1, 0, terms(1) }), changed(wire.Append, func(m *wire.Message) { m.Index, m.LogTerm = 0, 4 }))
}

// soundSnaps returns messages with snapshots.
func soundSnaps() []wire.Message {
	var l []wire.Message
	for _, change := range []func(s *api.Snap){
		func(s *api.Snap) { s.Term = 1 }, func(s *api.Snap) { s.Term = 7 }, func(s *api.Snap) { s.Index = 1 }, func(s *api.Snap) { s.Index = end - 1 }, func(s *api.Snap) { s.Members = []int{6} }, func(s *api.Snap) { s.Members = []int{0, 1, 2, 3, 4, 5, 6} },
		func(s *api.Snap) { s.Data = nil }, func(s *api.Snap) { s.Data = make([]byte, snapshot.Most) }, func(s *api.Snap) { s.Members = []int{3, 4} },
	} {
		l = append(l, changed(wire.Install, func(m *wire.Message) { change(&m.Snap) }))
	}
	return l
}

// unsound returns messages that there cannot be.
func unsound() []wire.Message {
	l := []wire.Message{{}}
	for _, kind := range []int{0, -1, 9, 10, 255, 256, 257, 1 << 32, 1<<32 + 1, math.MinInt, math.MaxInt} {
		l = append(l, bare(kind), changed(wire.Append, func(m *wire.Message) { m.Kind = kind }))
	}
	for _, kind := range kinds {
		for _, ends := range [][2]int{{0, 0}, {6, 6}, {-1, 0}, {0, -1}, {7, 0}, {0, 7}, {7, 7}, {-1, -1}, {1 << 32, 0}, {0, 1 << 32}, {math.MinInt, 0}, {0, math.MaxInt}, {256, 1}, {1, 256}} {
			l = append(l, changed(kind, func(m *wire.Message) { m.From, m.To = ends[0], ends[1] }))
		}
		for _, term := range []uint64{0, api.MaxIndex + 1, 1 << 63, math.MaxUint64} {
			l = append(l, changed(kind, func(m *wire.Message) { m.Term = term }))
		}
		for _, name := range names {
			if !of(kind, name) {
				l = append(l, changed(kind, func(m *wire.Message) { give(m, name) }))
			}
		}
	}
	return append(append(l, unsoundNumbers()...), append(unsoundEntries(), unsoundSnaps()...)...)
}

// unsoundNumbers returns messages with numbers that are too great.
func unsoundNumbers() []wire.Message {
	var l []wire.Message
	for _, kind := range kinds {
		for _, n := range []uint64{end + 1, api.MaxIndex, api.MaxIndex + 1, 1 << 63, math.MaxUint64 - 8, math.MaxUint64 - 3, math.MaxUint64} {
			if of(kind, "Index") {
				l = append(l, changed(kind, func(m *wire.Message) { m.Index = n }), changed(kind, func(m *wire.Message) { m.Index, m.Entries = n, nil }))
			}
			if of(kind, "Commit") {
				l = append(l, changed(kind, func(m *wire.Message) { m.Commit = n }))
			}
			if of(kind, "Round") && n > api.MaxIndex {
				l = append(l, changed(kind, func(m *wire.Message) { m.Round = n }))
			}
		}
		for _, n := range []uint64{8, 9, api.MaxIndex, 1 << 63, math.MaxUint64} {
			if of(kind, "LogTerm") {
				l = append(l, changed(kind, func(m *wire.Message) { m.LogTerm = n }), changed(kind, func(m *wire.Message) { m.LogTerm, m.Entries = n, nil }))
			}
		}
	}
	for n := 1; n <= api.MaxBatch; n++ {
		l = append(l, changed(wire.Append, func(m *wire.Message) { m.Index, m.Entries = end-uint64(n)+1, terms(7, 7, 7, 7, 7, 7, 7, 7)[:n] }))
	}
	return l
}

// unsoundEntries returns messages with entries that cannot follow each other, or cannot be.
func unsoundEntries() []wire.Message {
	l := appends(
		terms(2), terms(0), terms(8), terms(2, 3), terms(3, 2), terms(3, 8), terms(4, 3), terms(7, 7, 6), terms(3, 4, 5, 4), terms(3, 4, 0, 5), terms(7, 8, 7), terms(3, 3, 3, 3, 3, 3, 3, 2), terms(3, 3, 3, 3, 3, 3, 3, 8), terms(api.MaxIndex+1), terms(math.MaxUint64), terms(2, 3, 4, 5),
		terms(7, 7, 7, 7, 7, 7, 7, 7, 7), slices.Repeat([]api.Entry{entry(5, api.EntCommand, "x")}, 300),
	)
	for _, e := range []api.Entry{entry(5, 0, ""), entry(5, -1, ""), entry(5, 4, ""), entry(5, 1<<32+1, ""), entry(5, math.MaxInt, ""), {Term: 5, Kind: api.EntCommand, Data: make([]byte, api.MaxData+1)}, {Term: 5, Kind: api.EntNoop, Data: make([]byte, 2*api.MaxText)}} {
		l = append(l, appends([]api.Entry{e}, []api.Entry{entry(5, 1, ""), e}, []api.Entry{e, entry(5, 1, "")})...)
	}
	for _, data := range []string{"", "\x00", "\x01", "\x07", "\x01\x00", "\x01\x80", "\x01\xff", "\x02\x00\x07", "\x02\x01\x07", "\x81\x07", "\x01\x07\x00", "\x01\x07\x01\x07", "\x00\x01\x07", "no row"} {
		e := entry(5, api.EntMembers, data)
		l = append(l, appends([]api.Entry{e}, []api.Entry{entry(5, 1, ""), e}, []api.Entry{e, entry(5, 1, "")})...)
	}
	return append(l, changed(wire.Append, func(m *wire.Message) { m.Term, m.LogTerm, m.Entries = 1, 0, terms(0) }), changed(wire.Append, func(m *wire.Message) { m.LogTerm = 5 }))
}

// unsoundSnaps returns messages with snapshots that cannot be, or not in their term.
func unsoundSnaps() []wire.Message {
	l := []wire.Message{changed(wire.Install, func(m *wire.Message) { m.Snap = api.Snap{} }), changed(wire.Install, func(m *wire.Message) { m.Term = 5 })}
	for _, change := range []func(s *api.Snap){
		func(s *api.Snap) { s.Term = 0 }, func(s *api.Snap) { s.Term = 8 }, func(s *api.Snap) { s.Term = api.MaxIndex }, func(s *api.Snap) { s.Term = api.MaxIndex + 1 }, func(s *api.Snap) { s.Term = math.MaxUint64 }, func(s *api.Snap) { s.Index = 0 }, func(s *api.Snap) { s.Index = end }, func(s *api.Snap) { s.Index = math.MaxUint64 },
		func(s *api.Snap) { s.Members = nil }, func(s *api.Snap) { s.Members = []int{7} }, func(s *api.Snap) { s.Members = []int{-1} }, func(s *api.Snap) { s.Members = []int{1, 0} }, func(s *api.Snap) { s.Members = []int{1, 1} }, func(s *api.Snap) { s.Data = make([]byte, snapshot.Most+1) },
	} {
		l = append(l, changed(wire.Install, func(m *wire.Message) { change(&m.Snap) }))
	}
	for _, kind := range kinds {
		// One of these alone is something too.
		for _, s := range []api.Snap{{Index: 1}, {Term: 1}, {Members: []int{0}}, {Data: []byte{0}}} {
			l = append(l, changed(kind, func(m *wire.Message) { m.Snap = s }))
		}
	}
	return l
}

// equal compares messages without a call of the package.
func equal(a, b wire.Message) bool {
	return a.Kind == b.Kind && a.From == b.From && a.To == b.To && a.Term == b.Term && a.Index == b.Index && a.LogTerm == b.LogTerm && a.Commit == b.Commit && a.Round == b.Round && a.Ok == b.Ok && a.Force == b.Force &&
		slices.EqualFunc(a.Entries, b.Entries, func(x, y api.Entry) bool {
			return x.Term == y.Term && x.Kind == y.Kind && string(x.Data) == string(y.Data)
		}) &&
		a.Snap.Index == b.Snap.Index && a.Snap.Term == b.Snap.Term && slices.Equal(a.Snap.Members, b.Snap.Members) && string(a.Snap.Data) == string(b.Snap.Data)
}

// zero reports whether nothing is in a message, also no list.
func zero(m wire.Message) bool {
	return equal(m, wire.Message{}) && m.Entries == nil && m.Snap.Members == nil && m.Snap.Data == nil
}

// short returns what a failed test tells of a message.
func short(m wire.Message) []any {
	tell := []any{m.Kind, m.From, m.To, m.Term, "Index", m.Index, "LogTerm", m.LogTerm, "Commit", m.Commit, "Round", m.Round, m.Ok, m.Force, "Snap", m.Snap.Index, m.Snap.Term, m.Snap.Members, len(m.Snap.Data)}
	for _, e := range m.Entries {
		tell = append(tell, "Entry", e.Term, e.Kind, string(e.Data[:min(len(e.Data), 9)]))
	}
	return tell
}

// cloned returns a message in new memory.
func cloned(m wire.Message) wire.Message {
	m.Entries = slices.Clone(m.Entries)
	for i := range m.Entries {
		m.Entries[i].Data = bytes.Clone(m.Entries[i].Data)
	}
	m.Snap.Members, m.Snap.Data = slices.Clone(m.Snap.Members), bytes.Clone(m.Snap.Data)
	return m
}

// possible reports whether a message is sound, by the chapter's words.
func possible(m wire.Message) bool {
	node := func(n int) bool { return n >= 0 && n <= 6 }
	if m.Kind < 1 || m.Kind > 8 || !node(m.From) || !node(m.To) || m.From == m.To || m.Term == 0 || m.Term > api.MaxIndex {
		return false
	}
	if m.LogTerm > m.Term || m.Index > end || m.Commit > end || m.Round > api.MaxIndex || len(m.Entries) > 8 || m.Index+uint64(len(m.Entries)) > end {
		return false
	}
	for i, e := range m.Entries {
		before := m.LogTerm
		if i > 0 {
			before = m.Entries[i-1].Term
		}
		if !segment.Sound(e) || e.Term < before || e.Term > m.Term || e.Kind == api.EntMembers && (len(e.Data) != 2 || e.Data[0] != 1 || e.Data[1] == 0 || e.Data[1] > 127) {
			return false
		}
	}
	if m.Kind == 7 && (!snapshot.Sound(m.Snap) || m.Snap.Term > m.Term) {
		return false
	}
	for name, there := range map[string]bool{
		"Index": m.Index > 0, "LogTerm": m.LogTerm > 0, "Commit": m.Commit > 0, "Round": m.Round > 0, "Ok": m.Ok, "Force": m.Force, "Entries": len(m.Entries) > 0, "Snap": m.Snap.Index > 0 || m.Snap.Term > 0 || len(m.Snap.Members) > 0 || len(m.Snap.Data) > 0,
	} {
		if there && !of(m.Kind, name) {
			return false
		}
	}
	return true
}

// wrap returns a frame that must exist.
func wrap(t testing.TB, kind byte, body []byte) []byte {
	t.Helper()
	b, e := frame.Wrap(kind, body)
	if e != api.OK {
		t.Fatalf("Wrap: error %d", int(e))
	}
	return b
}

// snapped returns the encoding of a snapshot, sound or not.
func snapped(t testing.TB, s api.Snap) string {
	t.Helper()
	var w quill.Writer
	w.Num(s.Index, s.Term, uint64(len(s.Members)))
	for _, n := range s.Members {
		w.Num(uint64(n))
	}
	w.Text(string(s.Data))
	return string(wrap(t, 4, w.Bytes()))
}

// byHand returns the body of a message, sound or not, as the chapter says.
func byHand(t testing.TB, m wire.Message) []byte {
	t.Helper()
	var w quill.Writer
	w.Num(uint64(m.Kind), uint64(m.From), uint64(m.To), m.Term)
	switch m.Kind {
	case 1:
		w.Num(m.Index, m.LogTerm)
	case 2, 4:
		w.Flag(m.Ok)
	case 3:
		w.Num(m.Index, m.LogTerm)
		w.Flag(m.Force)
	case 5:
		w.Num(m.Index, m.LogTerm, m.Commit, m.Round, uint64(len(m.Entries)))
		for _, e := range m.Entries {
			w.Num(e.Term, uint64(e.Kind))
			w.Text(string(e.Data))
		}
	case 6:
		w.Flag(m.Ok)
		w.Num(m.Index, m.Round)
	case 7:
		w.Num(m.Round)
		w.Text(snapped(t, m.Snap))
	}
	return w.Bytes()
}

// encoded returns the encoding of a message that must have one.
func encoded(t testing.TB, m wire.Message) []byte {
	t.Helper()
	b, e := wire.Bytes(m)
	if e != api.OK {
		t.Fatalf("%v: error %d", short(m), int(e))
	}
	return b
}

// wantRead checks that bytes are the encoding of a message.
func wantRead(t *testing.T, b []byte, want wire.Message) {
	t.Helper()
	before := bytes.Clone(b)
	if got, ok := wire.Read(b); !ok || !equal(got, want) {
		t.Errorf("%v, %t, want %v", short(got), ok, short(want))
	}
	if !bytes.Equal(b, before) {
		t.Error("the argument was changed")
	}
}

// unread checks that bytes are not an encoding.
func unread(t *testing.T, what string, b []byte) {
	t.Helper()
	if m, ok := wire.Read(b); ok || !zero(m) {
		t.Errorf("%s: %x was read as %v, %t", what, b[:min(len(b), 60)], short(m), ok)
	}
}

// The chapter's example.
func TestExample(t *testing.T) {
	m := wire.Message{Kind: wire.Now, From: 0, To: 1, Term: 3}
	b := wrap(t, 5, []byte{1, 8, 0, 1, 1, 1, 3})
	if got, e := wire.Bytes(m); !bytes.Equal(got, b) || e != api.OK {
		t.Errorf("% x, error %d", got, int(e))
	}
	wantRead(t, b, m)
}

// Kinds are numbered from 1 on, in the order of the chapter.
func TestKinds(t *testing.T) {
	if !slices.Equal(kinds, []int{1, 2, 3, 4, 5, 6, 7, 8}) {
		t.Error(kinds)
	}
}

// P30.2: encodings by hand.
func TestByHand(t *testing.T) {
	s := "\x66\x04\x00\x00\x0a\x02\x01\x2c\x01\x02\x01\x01\x01\x03\x00"
	made, _ := snapshot.Bytes(api.Snap{Index: 300, Term: 2, Members: []int{3}})
	if string(made[:len(s)]) != s || len(made) != 18 {
		t.Fatalf("%x", made)
	}
	for _, x := range []struct {
		m    wire.Message
		body string
	}{
		{wire.Message{Kind: 1, From: 2, To: 0, Term: 9, Index: 300, LogTerm: 8}, "\x01\x01\x01\x02\x00\x01\x09\x02\x01\x2c\x01\x08"},
		{wire.Message{Kind: 2, From: 2, To: 0, Term: 9, Ok: true}, "\x01\x02\x01\x02\x00\x01\x09\x01\x01"},
		{wire.Message{Kind: 2, From: 2, To: 0, Term: 9}, "\x01\x02\x01\x02\x00\x01\x09\x00"},
		{wire.Message{Kind: 3, From: 2, To: 0, Term: 9, Index: 5, LogTerm: 8, Force: true}, "\x01\x03\x01\x02\x00\x01\x09\x01\x05\x01\x08\x01\x01"},
		{wire.Message{Kind: 3, From: 2, To: 0, Term: 9, Index: 5, LogTerm: 8}, "\x01\x03\x01\x02\x00\x01\x09\x01\x05\x01\x08\x00"},
		{wire.Message{Kind: 4, From: 2, To: 0, Term: 9, Ok: true}, "\x01\x04\x01\x02\x00\x01\x09\x01\x01"},
		{wire.Message{Kind: 5, From: 2, To: 0, Term: 9, Index: 1, LogTerm: 2, Commit: 3, Round: 4}, "\x01\x05\x01\x02\x00\x01\x09\x01\x01\x01\x02\x01\x03\x01\x04\x00"},
		{wire.Message{Kind: 5, From: 0, To: 6, Term: 256, Index: 1, LogTerm: 2, Commit: 3, Round: 4, Entries: []api.Entry{entry(2, 2, "ab"), entry(5, 1, ""), entry(256, 3, "\x01\x05")}}, "\x01\x05\x00\x01\x06\x02\x01\x00\x01\x01\x01\x02\x01\x03\x01\x04\x01\x03" + "\x01\x02\x01\x02\x01\x02ab" + "\x01\x05\x01\x01\x00" + "\x02\x01\x00\x01\x03\x01\x02\x01\x05"},
		{wire.Message{Kind: 6, From: 2, To: 0, Term: 9, Ok: true, Index: 7, Round: 300}, "\x01\x06\x01\x02\x00\x01\x09\x01\x01\x01\x07\x02\x01\x2c"},
		{wire.Message{Kind: 6, From: 2, To: 0, Term: 9}, "\x01\x06\x01\x02\x00\x01\x09\x00\x00\x00"},
		{wire.Message{Kind: 7, From: 2, To: 0, Term: 9, Round: 3, Snap: api.Snap{Index: 300, Term: 2, Members: []int{3}}}, "\x01\x07\x01\x02\x00\x01\x09\x01\x03\x01\x12" + string(made)},
		{wire.Message{Kind: 8, From: 5, To: 6, Term: api.MaxIndex}, "\x01\x08\x01\x05\x01\x06\x08\x10\x00\x00\x00\x00\x00\x00\x00"},
	} {
		b := wrap(t, 5, []byte(x.body))
		if got, e := wire.Bytes(x.m); !bytes.Equal(got, b) || e != api.OK {
			t.Errorf("%v: % x, error %d, want % x", short(x.m), got, int(e), b)
		}
		wantRead(t, b, x.m)
	}
}

// P30.1, P30.2
func TestSound(t *testing.T) {
	for _, m := range sound() {
		before := cloned(m)
		if !wire.Sound(m) || !possible(m) {
			t.Errorf("%v is not sound", short(m))
		}
		if b, e := wire.Bytes(m); e != api.OK || !bytes.Equal(b, wrap(t, 5, byHand(t, m))) {
			t.Errorf("%v: %d bytes, error %d", short(m), len(b), int(e))
		}
		if !equal(m, before) {
			t.Errorf("%v was changed", short(before))
		}
	}
	for _, m := range unsound() {
		if wire.Sound(m) || possible(m) {
			t.Errorf("%v is sound", short(m))
		}
		if b, e := wire.Bytes(m); b != nil || e != api.ErrArg {
			t.Errorf("%v: %d bytes, error %d", short(m), len(b), int(e))
		}
	}
}

// P30.1: each field in each kind, whatever other fields are there.
func TestFields(t *testing.T) {
	for _, kind := range kinds {
		for some := range 1 << len(names) {
			m, all := bare(kind), true
			for i, name := range names {
				if some>>i&1 == 1 {
					give(&m, name)
					all = all && of(kind, name)
				}
			}
			if got := wire.Sound(m); got != all {
				t.Errorf("%v: %t", short(m), got)
			}
			if _, e := wire.Bytes(m); (e == api.OK) != all {
				t.Errorf("%v: error %d", short(m), int(e))
			}
		}
	}
}

// P30.1, P30.2, general rule 3: an empty list is as good as none.
func TestEmptyLists(t *testing.T) {
	for _, kind := range kinds {
		m := bare(kind)
		m.Entries = []api.Entry{}
		if len(m.Snap.Members) == 0 {
			m.Snap.Members = []int{}
		}
		m.Snap.Data = []byte{}
		if !wire.Sound(m) || !wire.Same(m, bare(kind)) || !wire.Same(bare(kind), m) || !bytes.Equal(encoded(t, m), encoded(t, bare(kind))) {
			t.Errorf("kind %d with empty lists", kind)
		}
	}
	a, b := whole(wire.Append), whole(wire.Append)
	a.Entries[0].Data, b.Entries[0].Data = nil, []byte{}
	if !wire.Sound(a) || !wire.Sound(b) || !wire.Same(a, b) || !bytes.Equal(encoded(t, a), encoded(t, b)) {
		t.Error("an entry without data")
	}
}

// P30.1: of all pairs, sound or not.
func TestSame(t *testing.T) {
	all := append(sound(), unsound()...)
	random := rand.New(rand.NewPCG(30, 1))
	for i, a := range all {
		if !wire.Same(a, cloned(a)) {
			t.Errorf("%v is not the same as itself", short(a))
		}
		for range 100 {
			k := random.IntN(len(all))
			if got := wire.Same(a, all[k]); got != equal(a, all[k]) || i == k && !got {
				t.Errorf("Same(%v, %v): %t", short(a), short(all[k]), got)
			}
		}
	}
}

// full returns a message that has something in every field.
func full() wire.Message {
	m := bare(wire.Append)
	for _, name := range names {
		give(&m, name)
	}
	return m
}

// P30.1: each field counts, in lists each element.
func TestSameFields(t *testing.T) {
	for i, change := range []func(m *wire.Message){
		func(m *wire.Message) { m.Kind++ }, func(m *wire.Message) { m.From++ }, func(m *wire.Message) { m.To++ }, func(m *wire.Message) { m.Term++ }, func(m *wire.Message) { m.Index++ }, func(m *wire.Message) { m.LogTerm++ }, func(m *wire.Message) { m.Commit++ }, func(m *wire.Message) { m.Round++ },
		func(m *wire.Message) { m.Ok = false }, func(m *wire.Message) { m.Force = false }, func(m *wire.Message) { m.Entries = nil }, func(m *wire.Message) { m.Entries = m.Entries[:3] }, func(m *wire.Message) { m.Entries = m.Entries[1:] }, func(m *wire.Message) { m.Entries = append(m.Entries, m.Entries[0]) }, func(m *wire.Message) { slices.Reverse(m.Entries) },
		func(m *wire.Message) { m.Entries[0].Term++ }, func(m *wire.Message) { m.Entries[3].Term++ }, func(m *wire.Message) { m.Entries[0].Kind++ }, func(m *wire.Message) { m.Entries[3].Kind-- }, func(m *wire.Message) { m.Entries[0].Data = []byte{0} }, func(m *wire.Message) { m.Entries[3].Data[1]++ }, func(m *wire.Message) { m.Entries[1].Data = m.Entries[1].Data[:2] },
		func(m *wire.Message) { m.Snap.Index++ }, func(m *wire.Message) { m.Snap.Term++ }, func(m *wire.Message) { m.Snap.Members[2]++ }, func(m *wire.Message) { m.Snap.Members = m.Snap.Members[:2] }, func(m *wire.Message) { m.Snap.Members = nil }, func(m *wire.Message) { m.Snap.Data[3]++ }, func(m *wire.Message) { m.Snap.Data = m.Snap.Data[:3] }, func(m *wire.Message) { m.Snap.Data = nil },
	} {
		m := full()
		if !wire.Same(m, full()) {
			t.Errorf("%v is not the same as itself", short(m))
		}
		change(&m)
		if wire.Same(m, full()) || wire.Same(full(), m) {
			t.Errorf("the same after change %d: %v", i, short(m))
		}
	}
}

// P30.2: the longest messages have an encoding too.
func TestLongest(t *testing.T) {
	for _, kind := range kinds {
		m := longest(kind)
		b := encoded(t, m)
		if len(b) > api.MaxText+frame.Over {
			t.Errorf("kind %d: %d bytes", kind, len(b))
		}
		wantRead(t, b, m)
	}
	for kind, least := range map[int]int{wire.Append: api.MaxBatch * api.MaxData, wire.Install: snapshot.Most} {
		if n := len(encoded(t, longest(kind))); n < least {
			t.Errorf("kind %d: %d bytes", kind, n)
		}
	}
}

// P30.2, P30.3: what is read, and what is not.
func TestRead(t *testing.T) {
	for _, m := range sound() {
		b := encoded(t, m)
		wantRead(t, b, m)
		// Of the long ones, what lacks a few bytes at either end, and some in between.
		step := max(1, len(b)/200)
		for n := 0; n < len(b); n += step {
			unread(t, "truncated", b[:n])
		}
		for n := 1; n <= min(9, len(b)); n++ {
			unread(t, "truncated", b[:len(b)-n])
			unread(t, "without its beginning", b[n:])
		}
		for _, more := range [][]byte{{0}, {0x66}, b, wrap(t, 5, nil)} {
			unread(t, "something follows", slices.Concat(b, more))
			unread(t, "something precedes", slices.Concat(more, b))
		}
		room := slices.Concat(b, []byte("more"))
		wantRead(t, room[:len(b)], m)
	}
}

// P30.2: bytes that say what is not sound. With something in another field they are the encoding of another message.
func TestReadUnsound(t *testing.T) {
	rejected := 0
	for _, m := range unsound() {
		if len(byHand(t, m)) > api.MaxText {
			continue
		}
		b := wrap(t, 5, byHand(t, m))
		other := cloned(m)
		strip(&other)
		if possible(other) {
			wantRead(t, b, other)
			continue
		}
		unread(t, "not sound", b)
		rejected++
	}
	if rejected < 300 {
		t.Errorf("only %d", rejected)
	}
}

// strip removes the fields that the kind of a message does not have.
func strip(m *wire.Message) {
	o := wire.Message{Kind: m.Kind, From: m.From, To: m.To, Term: m.Term}
	for _, name := range names {
		if of(m.Kind, name) {
			put(&o, *m, name)
		}
	}
	*m = o
}

// put copies a field.
func put(to *wire.Message, from wire.Message, name string) {
	switch name {
	case "Index":
		to.Index = from.Index
	case "LogTerm":
		to.LogTerm = from.LogTerm
	case "Commit":
		to.Commit = from.Commit
	case "Round":
		to.Round = from.Round
	case "Ok":
		to.Ok = from.Ok
	case "Force":
		to.Force = from.Force
	case "Entries":
		to.Entries = from.Entries
	case "Snap":
		to.Snap = from.Snap
	}
}

// P30.2: bytes that are not such a frame, or have another body.
func TestReadErrors(t *testing.T) {
	unread(t, "nothing", nil)
	unread(t, "nothing", []byte{})
	for _, kind := range kinds {
		m := whole(kind)
		body := byHand(t, m)
		unread(t, "no frame", body)
		for k := 1; k < 256; k++ {
			if k != 5 {
				unread(t, "another kind of frame", wrap(t, byte(k), body))
			}
		}
		for n := range body {
			unread(t, "a short body", wrap(t, 5, body[:n]))
		}
		unread(t, "a long body", wrap(t, 5, slices.Concat(body, []byte{0})))
		unread(t, "a long body", wrap(t, 5, slices.Concat(body, body)))
		unread(t, "a frame in a frame", wrap(t, 5, wrap(t, 5, body)))
	}
	for n := range 30 {
		unread(t, "zeros", make([]byte, n))
		unread(t, "zeros in a frame", wrap(t, 5, make([]byte, n)))
		unread(t, "ones in a frame", wrap(t, 5, bytes.Repeat([]byte{255}, n)))
	}
}

// part is a piece of a body.
func part(l ...byte) []byte { return l }

// P30.2: numbers that are longer than needed, below 0, beyond their limits, or the same as others modulo 2^32.
func TestNumbers(t *testing.T) {
	one := part(1, 1)
	text := snapped(t, bare(wire.Install).Snap)
	for _, x := range []struct {
		kind  byte
		parts [][]byte
		// flags and small are the places of Flags and of other numbers that are never great.
		flags, small []int
	}{
		{1, [][]byte{one, one}, nil, nil}, {2, [][]byte{one}, []int{4}, nil}, {3, [][]byte{one, one, one}, []int{6}, nil}, {4, [][]byte{one}, []int{4}, nil},
		{5, [][]byte{one, one, one, one, one, one, one, part(1, 1, 'x')}, nil, []int{8, 10, 11}}, {6, [][]byte{one, one, one}, []int{4}, nil}, {7, [][]byte{one, append(part(1, byte(len(text))), text...)}, nil, []int{5}}, {8, nil, nil, nil},
	} {
		parts := slices.Concat([][]byte{{1, x.kind}, {1, 1}, {1, 2}, {1, 1}}, x.parts)
		if _, ok := wire.Read(wrap(t, 5, slices.Concat(parts...))); !ok {
			t.Fatalf("kind %d", x.kind)
		}
		bad := func(i int, l ...[]byte) {
			t.Helper()
			for _, b := range l {
				other := slices.Clone(parts)
				other[i] = b
				unread(t, "a bad number", wrap(t, 5, slices.Concat(other...)))
			}
		}
		for i, p := range parts {
			bad(i, part(129, 1), part(128), part(9, 1, 0, 0, 0, 0, 0, 0, 0, 0), part(8, 255, 255, 255, 255, 255, 255, 255, 255), part(8, 16, 0, 0, 0, 0, 0, 0, 1))
			bad(i, append(part(2, 0), p[1:]...), append(part(1, 0), p[2:]...), append(part(129), p[1:]...))
		}
		for _, i := range x.flags {
			bad(i, part(1, 2), part(1, 255), part(2, 1, 0))
		}
		for _, i := range slices.Concat([]int{0, 1, 2}, x.flags, x.small) {
			bad(i, append(part(5, 1, 0, 0, 0), parts[i][1:]...))
		}
		bad(0, part(0), part(1, 9), part(1, 255), part(2, 1, x.kind))
		bad(1, part(1, 2), part(1, 7), part(2, 1, 1))
		bad(2, part(1, 1), part(1, 7), part(2, 1, 2))
		bad(3, part(0))
	}
}

// P30.2: a number of entries other than there are, and texts that are no snapshots.
func TestLists(t *testing.T) {
	head := []byte{1, 5, 1, 1, 1, 2, 1, 9, 1, 1, 1, 2, 0, 0}
	each := []byte{1, 3, 1, 2, 1, 1, 'x'}
	for n := range 12 {
		for said := range 12 {
			b := wrap(t, 5, slices.Concat(head, number(uint64(said)), bytes.Repeat(each, n)))
			if said == n && n <= api.MaxBatch {
				wantRead(t, b, wire.Message{Kind: 5, From: 1, To: 2, Term: 9, Index: 1, LogTerm: 2, Entries: slices.Repeat([]api.Entry{entry(3, 2, "x")}, n)})
			} else {
				unread(t, "a number of entries", b)
			}
		}
		unread(t, "very many entries", wrap(t, 5, slices.Concat(head, number(math.MaxUint64), bytes.Repeat(each, n))))
	}
	good := snapped(t, snap())
	for _, text := range []string{"", good[1:], good[:len(good)-1], good + "\x00", good + good, "\x00" + good, strings.Replace(good, "data", "date", 1), good[5 : len(good)-3], string(wrap(t, 3, []byte(good[5:len(good)-3]))), string(wrap(t, 5, []byte(good[5:len(good)-3])))} {
		var w quill.Writer
		w.Num(7, 1, 2, 9, 3)
		w.Text(text)
		unread(t, "no snapshot", wrap(t, 5, w.Bytes()))
	}
}

// number returns the encoding of a number.
func number(n uint64) []byte {
	var w quill.Writer
	w.Num(n)
	return w.Bytes()
}

// spoil changes all that belongs to the lists of a message, with their spare capacity.
func spoil(m wire.Message) {
	for _, e := range m.Entries {
		data := e.Data[:cap(e.Data)]
		for i := range data {
			data[i] ^= 255
		}
	}
	clear(m.Entries[:cap(m.Entries)])
	clear(m.Snap.Members[:cap(m.Snap.Members)])
	clear(m.Snap.Data[:cap(m.Snap.Data)])
}

// P30.2: what is read is apart from the bytes and from itself, and bytes from messages.
func TestApart(t *testing.T) {
	for _, m := range sound() {
		b := encoded(t, m)
		before := bytes.Clone(b)
		got, _ := wire.Read(b)
		for i := range got.Entries {
			_ = append(got.Entries[i].Data, "spoilt"...)
		}
		_ = append(got.Entries, entry(9, 9, "spoilt"))
		if !equal(got, m) {
			t.Fatalf("the lists of %v are not apart", short(m))
		}
		clear(b[:cap(b)])
		if !equal(got, m) || !bytes.Equal(encoded(t, m), before) {
			t.Fatalf("a change of the bytes changed %v", short(m))
		}
		b = bytes.Clone(before)
		got, _ = wire.Read(b)
		spoil(got)
		if !bytes.Equal(b, before) {
			t.Fatalf("a change of %v changed the bytes", short(m))
		}
		for i := range got.Entries {
			got, _ = wire.Read(b)
			for k := range got.Entries[i].Data {
				got.Entries[i].Data[k] ^= 255
			}
			got.Entries[i] = m.Entries[i]
			if !equal(got, m) {
				t.Fatalf("entry %d of %v is not apart from the others", i, short(m))
			}
		}
	}
}

// P30.1, P30.2, general rule 4: arguments stay as they are, with what is behind their ends.
func TestArguments(t *testing.T) {
	members, data, text := []int{9, 0, 2, 5, 8, 8}, []byte("-data--"), []byte("-abc--")
	entries := []api.Entry{entry(9, 9, "before"), {Term: 4, Kind: api.EntCommand, Data: text[1:4]}, entry(5, api.EntMembers, row), entry(9, 9, "behind")}
	a, b := whole(wire.Append), whole(wire.Install)
	a.Entries = entries[1:3]
	b.Snap.Members, b.Snap.Data = members[1:4], data[1:5]
	for _, m := range []wire.Message{a, b} {
		if !wire.Sound(m) || !wire.Same(m, m) || len(encoded(t, m)) == 0 {
			t.Errorf("%v", short(m))
		}
	}
	if !slices.Equal(members, []int{9, 0, 2, 5, 8, 8}) || string(data) != "-data--" || string(text) != "-abc--" || !segment.Same(entries, []api.Entry{entry(9, 9, "before"), entry(4, 2, "abc"), entry(5, 3, row), entry(9, 9, "behind")}) {
		t.Error("an argument was changed")
	}
}

// near returns a number that is often at or next to a bound.
func near(random *rand.Rand, bounds ...uint64) uint64 {
	if random.IntN(4) == 0 {
		return random.Uint64() >> random.IntN(64)
	}
	return bounds[random.IntN(len(bounds))] + random.Uint64N(3) - 1
}

// rarely is true now and then.
func rarely(random *rand.Rand) bool { return random.IntN(25) == 0 }

// anyMessage returns a message that may be sound.
func anyMessage(random *rand.Rand) wire.Message {
	kind := 1 + random.IntN(8)
	m := wire.Message{Kind: kind, From: random.IntN(7), Term: 1 + random.Uint64N(api.MaxIndex)>>random.IntN(60)}
	m.To = (m.From + 1 + random.IntN(6)) % 7
	for _, name := range names {
		if of(kind, name) != rarely(random) {
			anyField(random, &m, name)
		}
	}
	if rarely(random) {
		m.Kind, m.From, m.To = random.IntN(11)-1, random.IntN(9)-1, random.IntN(9)-1
	}
	if rarely(random) {
		m.Term = near(random, 1, api.MaxIndex)
	}
	return m
}

// anyField sets a field to what may be sound.
func anyField(random *rand.Rand, m *wire.Message, name string) {
	switch name {
	case "Index":
		m.Index = random.Uint64N(end-8) >> random.IntN(60)
		if rarely(random) {
			m.Index = near(random, 1, end-9, end-4, end)
		}
	case "LogTerm":
		m.LogTerm = random.Uint64N(m.Term + 1)
		if rarely(random) {
			m.LogTerm = near(random, 1, m.Term, api.MaxIndex)
		}
	case "Commit":
		m.Commit = near(random, 1, end-1, end/2)
	case "Round":
		m.Round = near(random, 1, end, api.MaxIndex-1)
	case "Ok":
		m.Ok = random.IntN(2) == 0
	case "Force":
		m.Force = random.IntN(2) == 0
	case "Entries":
		m.Entries = anyEntries(random, m.LogTerm, m.Term)
	case "Snap":
		m.Snap = anySnap(random, m.Term)
	}
}

// anyEntries returns entries with terms from least to most, or nearly.
func anyEntries(random *rand.Rand, least, most uint64) []api.Entry {
	var l []api.Entry
	for range random.IntN(10) {
		if most > least {
			least += random.Uint64N(most-least+1) >> random.IntN(64)
		}
		e := api.Entry{Term: max(1, least), Kind: 1 + random.IntN(3), Data: make([]byte, random.IntN(20))}
		for i := range e.Data {
			e.Data[i] = byte(random.Uint32())
		}
		if e.Kind == api.EntMembers && !rarely(random) {
			e.Data = []byte{1, byte(1 + random.IntN(127))}
		}
		if rarely(random) {
			e.Term, e.Kind = near(random, 1, least, most), random.IntN(6)-1
		}
		l = append(l, e)
	}
	return l
}

// anySnap returns a snapshot that may be sound, with a term of at most most, or nearly.
func anySnap(random *rand.Rand, most uint64) api.Snap {
	s := api.Snap{Index: 1 + random.Uint64N(end-1)>>random.IntN(60), Term: 1 + random.Uint64N(most), Data: make([]byte, random.IntN(20))}
	if rarely(random) {
		s.Index, s.Term = near(random, 1, end), near(random, 1, most)
	}
	for n := range 7 {
		if random.IntN(2) == 0 || n == 6 && len(s.Members) == 0 {
			s.Members = append(s.Members, n)
		}
	}
	if rarely(random) {
		s.Members[0] = random.IntN(9) - 1
	}
	return s
}

// P30.1, P30.2, P30.3: any messages against the chapter's words.
func TestAnyMessage(t *testing.T) {
	random := rand.New(rand.NewPCG(30, 2))
	good := 0
	for range 20000 {
		m := anyMessage(random)
		if got := wire.Sound(m); got != possible(m) {
			t.Fatalf("%v: %t", short(m), got)
		}
		if !possible(m) {
			if b, e := wire.Bytes(m); b != nil || e != api.ErrArg {
				t.Fatalf("%v: error %d", short(m), int(e))
			}
			continue
		}
		good++
		b := encoded(t, m)
		if got, ok := wire.Read(b); !ok || !equal(got, m) || !bytes.Equal(b, wrap(t, 5, byHand(t, m))) {
			t.Fatalf("%v was read as %v", short(m), short(got))
		}
	}
	if good < 8000 || good > 16000 {
		t.Errorf("%d of 20000 are sound", good)
	}
}

// P30.2: bodies of which bytes are changed are read only if they are the encoding of what is read.
func TestAnyBody(t *testing.T) {
	random := rand.New(rand.NewPCG(30, 20))
	read := 0
	for range 30000 {
		m := anyMessage(random)
		strip(&m)
		body := byHand(t, m)
		for range 1 + random.IntN(2) {
			body[random.IntN(len(body))] ^= byte(1 << random.IntN(8))
		}
		b := wrap(t, 5, body)
		got, ok := wire.Read(b)
		switch {
		case !ok && !zero(got):
			t.Fatalf("%x: %v", body, short(got))
		case ok && (!possible(got) || !bytes.Equal(encoded(t, got), b)):
			t.Fatalf("%x was read as %v", body, short(got))
		case ok:
			read++
		}
	}
	if read < 1000 {
		t.Errorf("%d of 30000 were read", read)
	}
}

// flip changes bits from a place on.
func flip(b []byte, at int, bits uint32) []byte {
	b = bytes.Clone(b)
	for i := range 24 {
		if bits>>i&1 == 1 {
			b[(at+i)/8] ^= 0x80 >> ((at + i) % 8)
		}
	}
	return b
}

// P30.3: changed within 24 consecutive bits, an encoding is rejected.
func TestChanged(t *testing.T) {
	random := rand.New(rand.NewPCG(30, 3))
	for _, kind := range kinds {
		for _, m := range []wire.Message{bare(kind), whole(kind)} {
			b := encoded(t, m)
			for at := range 8*len(b) - 23 {
				for i := range 24 {
					unread(t, "a changed bit", flip(b, at, 1<<i))
				}
				unread(t, "changed bits", flip(b, at, 1<<24-1))
				for range 30 {
					unread(t, "changed bits", flip(b, at, 1+random.Uint32N(1<<24-1)))
				}
			}
		}
		b := encoded(t, longest(kind))
		for range 300 {
			unread(t, "changed bits", flip(b, random.IntN(8*len(b)-23), 1+random.Uint32N(1<<24-1)))
		}
	}
}

// P30.1, P30.2 for any bytes, which are also the body of a frame: what is read is sound, and these are its encoding.
func FuzzRead(f *testing.F) {
	for _, kind := range kinds {
		f.Add(encoded(f, whole(kind)))
		f.Add(byHand(f, whole(kind)))
		f.Add(byHand(f, bare(kind)))
	}
	f.Fuzz(func(t *testing.T, b []byte) {
		check := func(b []byte) {
			switch m, ok := wire.Read(b); {
			case !ok && !zero(m):
				t.Fatalf("%x: %v", b, short(m))
			case ok && (!wire.Sound(m) || !possible(m) || !bytes.Equal(encoded(t, m), b)):
				t.Fatalf("%x was read as %v", b, short(m))
			}
		}
		check(b)
		if len(b) <= api.MaxText {
			check(wrap(t, 5, b))
		}
	})
}
