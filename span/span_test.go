package span_test

import (
	"math"
	"math/rand/v2"
	"slices"
	"testing"

	"curfew/api"
	"curfew/span"
)

// row returns the spans whose begins and ends are given.
func row(l ...int64) []api.Span {
	var r []api.Span
	for i := 0; i+1 < len(l); i += 2 {
		r = append(r, api.Span{From: l[i], To: l[i+1]})
	}
	return r
}

// comb returns n spans of size seconds, one every step seconds.
func comb(n int, from, size, step int64) []api.Span {
	var r []api.Span
	for i := range int64(n) {
		r = append(r, api.Span{From: from + i*step, To: from + i*step + size})
	}
	return r
}

// seconds returns all seconds that some span contains, ascending.
func seconds(l []api.Span) []int64 {
	var all []int64
	for _, s := range l {
		for t := s.From; t < s.To; t++ {
			all = append(all, t)
		}
	}
	slices.Sort(all)
	return slices.Compact(all)
}

// between returns those that are in the range.
func between(all []int64, from, to int64) []int64 {
	var l []int64
	for _, t := range all {
		if from <= t && t < to {
			l = append(l, t)
		}
	}
	return l
}

// runs returns the fewest spans that contain these seconds.
func runs(all []int64) []api.Span {
	var r []api.Span
	for _, t := range all {
		if n := len(r); n > 0 && r[n-1].To == t {
			r[n-1].To++
		} else {
			r = append(r, api.Span{From: t, To: t + 1})
		}
	}
	return r
}

// overlaps returns what each span of a has in common with each one of b, compared one with one.
func overlaps(a, b []api.Span) []api.Span {
	var r []api.Span
	for _, s := range a {
		for _, u := range b {
			from, to := s.From, s.To
			if u.From > from {
				from = u.From
			}
			if u.To < to {
				to = u.To
			}
			if from < to {
				r = append(r, api.Span{From: from, To: to})
			}
		}
	}
	return r
}

// anyRow returns a row of spans between from and to, also with spans that touch each other.
func anyRow(random *rand.Rand, from, to int64) []api.Span {
	var r []api.Span
	for n := random.IntN(api.MaxSpans + 1); len(r) < n; {
		from += random.Int64N(4) * random.Int64N(2)
		end := from + 1 + random.Int64N(4)
		if end > to {
			break
		}
		r = append(r, api.Span{From: from, To: end})
		from = end
	}
	return r
}

// wrong returns lists that are not rows.
func wrong() [][]api.Span {
	return [][]api.Span{
		row(5, 5), row(0, 0), row(6, 5), row(-1, 5), row(-5, -1), row(0, api.Horizon+1), row(api.Horizon, api.Horizon), row(api.Horizon, api.Horizon+1),
		row(math.MinInt64, math.MaxInt64), row(math.MaxInt64, math.MinInt64), row(0, math.MaxInt64), row(math.MinInt64, 5), row(5, math.MinInt64),
		row(0, 10, 9, 12), row(0, 10, 0, 10), row(20, 30, 0, 10), row(0, 10, 5, 6), row(0, 10, 20, 20), row(0, 10, 15, 14), row(5, 5, 5, 6),
		row(0, 10, 20, 30, 29, 31), row(0, 10, 20, api.Horizon+1), row(-1, 0, 0, 5), append(comb(api.MaxSpans-1, 0, 1, 2), row(3, 4)...),
		comb(api.MaxSpans+1, 0, 1, 2), comb(api.MaxSpans+1, 0, 1, 1), comb(1000, 0, 1, 2),
	}
}

// same checks a list, for which it does not rely on span.Same.
func same(a, b []api.Span) bool {
	if len(a) != len(b) {
		return false
	}
	for i := range a {
		if a[i].From != b[i].From || a[i].To != b[i].To {
			return false
		}
	}
	return true
}

// P7.1 to P7.3: the chapter's example.
func TestExample(t *testing.T) {
	l := row(0, 10, 20, 30)
	if n := span.Within(l, 5, 25); n != 10 {
		t.Errorf("Within %d", n)
	}
	if n, ok := span.Nth(l, 12); n != 22 || !ok {
		t.Errorf("Nth %d, %t", n, ok)
	}
	if j := span.Join(row(5, 8, 0, 5)...); !same(j, row(0, 8)) {
		t.Errorf("Join %v", j)
	}
}

// P7.1
func TestRight(t *testing.T) {
	for _, x := range []struct {
		from, to int64
		want     bool
	}{
		{0, 1, true}, {0, api.Horizon, true}, {api.Horizon - 1, api.Horizon, true}, {5, 6, true}, {1, 100, true},
		{0, 0, false}, {5, 5, false}, {6, 5, false}, {-1, 5, false}, {-1, 0, false}, {-5, -3, false}, {0, -1, false},
		{0, api.Horizon + 1, false}, {api.Horizon, api.Horizon, false}, {api.Horizon, api.Horizon + 1, false},
		{math.MinInt64, math.MaxInt64, false}, {math.MaxInt64, math.MinInt64, false}, {0, math.MaxInt64, false}, {math.MinInt64, 5, false}, {5, math.MinInt64, false},
	} {
		if got := span.Right(api.Span{From: x.from, To: x.to}); got != x.want {
			t.Errorf("%d to %d: %t", x.from, x.to, got)
		}
	}
}

// P7.1
func TestRow(t *testing.T) {
	for _, l := range [][]api.Span{
		nil, {}, row(0, 1), row(0, api.Horizon), row(api.Horizon-1, api.Horizon), row(0, 10, 20, 30), row(0, 10, 10, 20), row(0, 1, 1, 2, 2, api.Horizon),
		comb(api.MaxSpans-1, 0, 1, 2), comb(api.MaxSpans, 0, 1, 2), comb(api.MaxSpans, 0, 1, 1), comb(api.MaxSpans, api.Horizon-api.MaxSpans, 1, 1),
	} {
		if e := span.Row(l); e != api.OK {
			t.Errorf("%v: error %d", l, int(e))
		}
	}
	for _, l := range wrong() {
		want := api.ErrArg
		if len(l) > api.MaxSpans {
			want = api.ErrLong
		}
		if e := span.Row(l); e != want {
			t.Errorf("%v: error %d, want %d", l, int(e), int(want))
		}
	}
}

// P7.1: of two errors the first, and no span beyond the length counts.
func TestRowOfTooMany(t *testing.T) {
	if e := span.Row(make([]api.Span, api.MaxSpans)); e != api.ErrArg {
		t.Errorf("as many as there may be: error %d", int(e))
	}
	if e := span.Row(make([]api.Span, api.MaxSpans+1)); e != api.ErrLong {
		t.Errorf("one too many: error %d", int(e))
	}
	if e := span.Row(make([]api.Span, 100)[:0]); e != api.OK {
		t.Errorf("none: error %d", int(e))
	}
	if e := span.Row(comb(100, 0, 1, 2)[:api.MaxSpans]); e != api.OK {
		t.Errorf("with more behind: error %d", int(e))
	}
}

// P7.1
func TestAdd(t *testing.T) {
	for _, x := range []struct {
		t, by, want int64
		e           api.Errno
	}{
		{0, 0, 0, api.OK}, {5, 7, 12, api.OK}, {12, -7, 5, api.OK}, {7, -7, 0, api.OK}, {0, api.Horizon, api.Horizon, api.OK}, {api.Horizon, -api.Horizon, 0, api.OK},
		{api.Horizon, 0, api.Horizon, api.OK}, {api.Horizon - 1, 1, api.Horizon, api.OK}, {1, api.Horizon - 1, api.Horizon, api.OK},
		{7, -8, 0, api.ErrBig}, {0, -1, 0, api.ErrBig}, {api.Horizon, 1, 0, api.ErrBig}, {0, api.Horizon + 1, 0, api.ErrBig}, {api.Horizon, -api.Horizon - 1, 0, api.ErrBig},
		{0, math.MaxInt64, 0, api.ErrBig}, {1, math.MaxInt64, 0, api.ErrBig}, {api.Horizon, math.MaxInt64, 0, api.ErrBig},
		{0, math.MinInt64, 0, api.ErrBig}, {api.Horizon, math.MinInt64, 0, api.ErrBig},
		{-1, 0, 0, api.ErrArg}, {-1, 1, 0, api.ErrArg}, {-1, -1, 0, api.ErrArg}, {api.Horizon + 1, 0, 0, api.ErrArg}, {api.Horizon + 1, -1, 0, api.ErrArg},
		{math.MinInt64, math.MinInt64, 0, api.ErrArg}, {math.MinInt64, math.MaxInt64, 0, api.ErrArg}, {math.MaxInt64, math.MinInt64, 0, api.ErrArg}, {math.MaxInt64, math.MaxInt64, 0, api.ErrArg},
	} {
		if got, e := span.Add(x.t, x.by); got != x.want || e != x.e {
			t.Errorf("Add(%d, %d): %d, error %d, want %d, error %d", x.t, x.by, got, int(e), x.want, int(x.e))
		}
	}
}

// P7.1: also lists that are not rows are equal or not.
func TestSame(t *testing.T) {
	all := append(wrong(), nil, row(0, 10), row(0, 11), row(1, 10), row(0, 10, 20, 30), row(20, 30), row(0, 10, 10, 20), row(0, 20), comb(api.MaxSpans, 0, 1, 2))
	for i, a := range all {
		for j, b := range all {
			b = append(append([]api.Span{}, b...), api.Span{From: 7, To: 9})[:len(b)]
			if got := span.Same(a, b); got != (i == j) {
				t.Errorf("%v and %v: %t", a, b, got)
			}
		}
	}
	if !span.Same(nil, []api.Span{}) || !span.Same([]api.Span{}, nil) || span.Same(nil, make([]api.Span, 1)) {
		t.Error("lists without elements")
	}
}

// P7.2
func TestListsThatAreNotRows(t *testing.T) {
	good := row(0, api.Horizon)
	for _, l := range wrong() {
		if n := span.Len(l); n != 0 {
			t.Errorf("%v: Len %d", l, n)
		}
		for _, from := range []int64{0, 5, 20, math.MinInt64, api.Horizon - 1} {
			for _, to := range []int64{1, 6, 100, api.Horizon, math.MaxInt64} {
				if n, c := span.Within(l, from, to), span.Cut(l, from, to); n != 0 || c != nil {
					t.Errorf("%v: from %d to %d: %d, %v", l, from, to, n, c)
				}
			}
			if span.Has(l, from) {
				t.Errorf("%v: has %d", l, from)
			}
			if n, ok := span.Nth(l, from); n != 0 || ok {
				t.Errorf("%v: Nth(%d) is %d, %t", l, from, n, ok)
			}
		}
		if span.Both(l, good) != nil || span.Both(good, l) != nil || span.Both(l, l) != nil {
			t.Errorf("%v: Both", l)
		}
	}
}

// P7.2: a row without spans has no second.
func TestEmptyRows(t *testing.T) {
	for _, l := range [][]api.Span{nil, {}} {
		n, ok := span.Nth(l, 0)
		if span.Len(l) != 0 || span.Has(l, 0) || span.Within(l, 0, api.Horizon) != 0 || len(span.Cut(l, 0, api.Horizon)) != 0 || n != 0 || ok {
			t.Error("a second")
		}
		if len(span.Both(l, row(0, 10))) != 0 || len(span.Both(row(0, 10), l)) != 0 || len(span.Join(l...)) != 0 {
			t.Error("a span")
		}
	}
}

// P7.2: ranges that begin and end anywhere, also beyond the instants and where a difference would be beyond int64.
func TestRangesOfAnyNumbers(t *testing.T) {
	l := row(0, 10, 20, 30, api.Horizon-5, api.Horizon)
	for _, x := range []struct {
		from, to int64
		want     []api.Span
	}{
		{0, api.Horizon, l}, {math.MinInt64, math.MaxInt64, l}, {-1, api.Horizon + 1, l}, {0, math.MaxInt64, l}, {math.MinInt64, api.Horizon, l},
		{5, 25, row(5, 10, 20, 25)}, {9, 21, row(9, 10, 20, 21)}, {10, 20, nil}, {30, api.Horizon - 5, nil}, {9, 10, row(9, 10)}, {20, 21, row(20, 21)}, {0, 1, row(0, 1)},
		{2, 4, row(2, 4)}, {0, 10, row(0, 10)}, {-7, 3, row(0, 3)}, {25, math.MaxInt64, row(25, 30, api.Horizon-5, api.Horizon)},
		{api.Horizon - 1, math.MaxInt64, row(api.Horizon-1, api.Horizon)}, {api.Horizon, math.MaxInt64, nil}, {math.MinInt64, 0, nil}, {math.MinInt64, 1, row(0, 1)},
		{5, 5, nil}, {6, 5, nil}, {25, 5, nil}, {api.Horizon, 0, nil}, {math.MaxInt64, math.MinInt64, nil}, {0, math.MinInt64, nil}, {5, math.MinInt64, nil},
		{math.MaxInt64, 0, nil}, {math.MaxInt64, 5, nil}, {math.MinInt64, math.MinInt64, nil}, {math.MaxInt64, math.MaxInt64, nil}, {-10, -5, nil},
	} {
		if got := span.Cut(l, x.from, x.to); !same(got, x.want) {
			t.Errorf("Cut from %d to %d: %v, want %v", x.from, x.to, got, x.want)
		}
		want := int64(0)
		for _, s := range x.want {
			want += s.To - s.From
		}
		if got := span.Within(l, x.from, x.to); got != want {
			t.Errorf("Within from %d to %d: %d, want %d", x.from, x.to, got, want)
		}
	}
}

// P7.2: spans of a row that touch each other are not joined.
func TestCutOfTouchingSpans(t *testing.T) {
	l := row(0, 5, 5, 10, 10, 20)
	for _, x := range []struct {
		from, to int64
		want     []api.Span
	}{{0, 20, l}, {3, 12, row(3, 5, 5, 10, 10, 12)}, {5, 10, row(5, 10)}, {4, 6, row(4, 5, 5, 6)}, {10, 10, nil}} {
		if got := span.Cut(l, x.from, x.to); !same(got, x.want) {
			t.Errorf("Cut from %d to %d: %v, want %v", x.from, x.to, got, x.want)
		}
	}
}

// P7.2: the first and the last seconds, and numbers that are none.
func TestHasAndNthAtTheEdges(t *testing.T) {
	l := row(0, 10, 10, 12, 20, 30, api.Horizon-5, api.Horizon)
	for _, x := range []struct {
		t    int64
		want bool
	}{
		{0, true}, {9, true}, {10, true}, {11, true}, {12, false}, {19, false}, {20, true}, {29, true}, {30, false}, {api.Horizon - 6, false}, {api.Horizon - 5, true},
		{api.Horizon - 1, true}, {api.Horizon, false}, {-1, false}, {math.MinInt64, false}, {math.MaxInt64, false},
	} {
		if got := span.Has(l, x.t); got != x.want {
			t.Errorf("Has(%d): %t", x.t, got)
		}
	}
	for _, x := range []struct {
		n, want int64
		ok      bool
	}{
		{0, 0, true}, {9, 9, true}, {10, 10, true}, {11, 11, true}, {12, 20, true}, {21, 29, true}, {22, api.Horizon - 5, true}, {26, api.Horizon - 1, true},
		{27, 0, false}, {28, 0, false}, {-1, 0, false}, {math.MinInt64, 0, false}, {math.MaxInt64, 0, false},
	} {
		if got, ok := span.Nth(l, x.n); got != x.want || ok != x.ok {
			t.Errorf("Nth(%d): %d, %t, want %d", x.n, got, ok, x.want)
		}
	}
	all := row(0, api.Horizon)
	if n := span.Len(all); n != api.Horizon {
		t.Errorf("all instants: Len %d", n)
	}
	if n, ok := span.Nth(all, api.Horizon-1); n != api.Horizon-1 || !ok {
		t.Errorf("the last of all: %d, %t", n, ok)
	}
	if n, ok := span.Nth(all, api.Horizon); n != 0 || ok {
		t.Errorf("behind the last of all: %d, %t", n, ok)
	}
}

// P7.2
func TestBoth(t *testing.T) {
	for _, x := range []struct{ a, b, want []api.Span }{
		{row(0, 10), row(5, 15), row(5, 10)}, {row(0, 10), row(10, 15), nil}, {row(0, 10), row(0, 10), row(0, 10)}, {row(0, 10), row(11, 15), nil},
		{row(0, 10), row(2, 3, 3, 4, 6, 7), row(2, 3, 3, 4, 6, 7)}, {row(0, 5, 5, 10), row(3, 8), row(3, 5, 5, 8)}, {row(0, 5, 5, 10), row(0, 10), row(0, 5, 5, 10)},
		{row(0, 5, 5, 10), row(0, 5, 5, 10), row(0, 5, 5, 10)}, {row(0, 4, 8, 12), row(2, 10), row(2, 4, 8, 10)}, {row(0, 4, 8, 12), row(4, 8), nil},
		{row(0, 10, 20, 30), row(5, 25), row(5, 10, 20, 25)}, {row(0, 1, 29, 30), row(0, 30), row(0, 1, 29, 30)},
		{row(0, api.Horizon), row(api.Horizon-1, api.Horizon), row(api.Horizon-1, api.Horizon)}, {row(0, 6, 6, 7), row(1, 2, 2, 8), row(1, 2, 2, 6, 6, 7)},
	} {
		if got := span.Both(x.a, x.b); !same(got, x.want) {
			t.Errorf("%v and %v: %v, want %v", x.a, x.b, got, x.want)
		}
		if got := span.Both(x.b, x.a); !same(got, x.want) {
			t.Errorf("%v and %v: %v, want %v", x.b, x.a, got, x.want)
		}
	}
}

// P7.2: as many intersections as there may be, and one more.
func TestBothOfTooMany(t *testing.T) {
	most := comb(api.MaxSpans, 0, 10, 10)
	if got := span.Both(most, row(0, api.Horizon)); !same(got, most) {
		t.Errorf("as many as there may be: %v", got)
	}
	if got := span.Both(comb(31, 0, 10, 10), row(0, 155, 155, 400)); len(got) != api.MaxSpans {
		t.Errorf("31 and one cut in two: %v", got)
	}
	if got := span.Both(most, row(0, 155, 155, 400)); got != nil {
		t.Errorf("32 and one cut in two: %v", got)
	}
	if got := span.Both(row(0, 155, 155, 400), most); got != nil {
		t.Errorf("one cut in two and 32: %v", got)
	}
	if got := span.Both(most, comb(api.MaxSpans, 5, 10, 10)); got != nil {
		t.Errorf("63: %v", got)
	}
	if got := span.Both(most, comb(api.MaxSpans, 400, 10, 10)); got != nil {
		t.Errorf("none: %v", got)
	}
}

// P7.3
func TestJoin(t *testing.T) {
	for _, x := range []struct{ l, want []api.Span }{
		{nil, nil}, {row(3, 4), row(3, 4)}, {row(0, 5, 5, 8), row(0, 8)}, {row(5, 8, 0, 5), row(0, 8)}, {row(0, 5, 6, 8), row(0, 5, 6, 8)}, {row(6, 8, 0, 5), row(0, 5, 6, 8)},
		{row(0, 10, 2, 3), row(0, 10)}, {row(2, 3, 0, 10), row(0, 10)}, {row(0, 10, 2, 3, 9, 12), row(0, 12)}, {row(0, 10, 0, 3, 0, 12), row(0, 12)},
		{row(4, 6, 4, 6, 4, 6), row(4, 6)}, {row(0, 2, 8, 9, 1, 8), row(0, 9)}, {row(0, api.Horizon, 5, 6), row(0, api.Horizon)}, {row(0, 10, 2, 3, 3, 4, 11, 12), row(0, 10, 11, 12)},
		{row(api.Horizon-1, api.Horizon, 0, 1), row(0, 1, api.Horizon-1, api.Horizon)},
	} {
		if got := span.Join(x.l...); !same(got, x.want) {
			t.Errorf("%v: %v, want %v", x.l, got, x.want)
		}
	}
}

// P7.3: lists of more spans than a row may have, before and after.
func TestJoinOfMany(t *testing.T) {
	apart := comb(1000, 0, 1, 2)
	touching := comb(1000, 5, 2, 2)
	slices.Reverse(touching)
	if got := span.Join(apart...); !same(got, apart) {
		t.Errorf("apart: %d spans", len(got))
	}
	if got := span.Join(touching...); !same(got, row(5, 2005)) {
		t.Errorf("touching: %v", got)
	}
}

// P7.3: one span that is not Right, among others, at each place.
func TestJoinOfWrongSpans(t *testing.T) {
	for _, s := range row(5, 5, 6, 5, -1, 5, 0, 0, 0, api.Horizon+1, api.Horizon, api.Horizon, math.MinInt64, math.MaxInt64) {
		for i := range 4 {
			l := slices.Insert(row(0, 5, 7, 9, 20, 30), i, s)
			if got := span.Join(l...); got != nil {
				t.Errorf("%v: %v", l, got)
			}
		}
		if got := span.Join(s); got != nil {
			t.Errorf("%v: %v", s, got)
		}
	}
}

// checkRow compares all that the functions tell of a row with its seconds, one by one (P7.2, P7.4).
func checkRow(t *testing.T, l []api.Span, from, to int64) {
	t.Helper()
	all := seconds(l)
	if n := span.Len(l); n != int64(len(all)) {
		t.Fatalf("%v: Len %d", l, n)
	}
	for i := int64(-2); i <= int64(len(all))+2; i++ {
		n, ok := span.Nth(l, i)
		if i < 0 || i >= int64(len(all)) {
			if n != 0 || ok {
				t.Fatalf("%v: Nth(%d) is %d, %t", l, i, n, ok)
			}
		} else if n != all[i] || !ok {
			t.Fatalf("%v: Nth(%d) is %d, %t", l, i, n, ok)
		}
	}
	for a := from - 2; a <= to+2; a++ {
		if span.Has(l, a) != slices.Contains(all, a) {
			t.Fatalf("%v: Has(%d)", l, a)
		}
		for b := from - 2; b <= to+2; b++ {
			if n := span.Within(l, a, b); n != int64(len(between(all, a, b))) {
				t.Fatalf("%v: Within(%d, %d) is %d", l, a, b, n)
			}
			c := span.Cut(l, a, b)
			if span.Row(c) != api.OK || !slices.Equal(seconds(c), between(all, a, b)) {
				t.Fatalf("%v: Cut(%d, %d) is %v", l, a, b, c)
			}
		}
	}
}

// P7.2 and P7.4: any rows, at the first and at the last instants.
func TestAnyRows(t *testing.T) {
	random := rand.New(rand.NewPCG(7, 2))
	for range 100 {
		checkRow(t, anyRow(random, 0, 40), 0, 40)
		checkRow(t, anyRow(random, api.Horizon-40, api.Horizon), api.Horizon-40, api.Horizon)
	}
}

// P7.2 and P7.3: any two rows together.
func TestAnyTwoRows(t *testing.T) {
	random := rand.New(rand.NewPCG(7, 3))
	some, many := 0, 0
	for range 20_000 {
		from := random.Int64N(2) * (api.Horizon - 120)
		a, b := anyRow(random, from, from+120), anyRow(random, from, from+120)
		want := overlaps(a, b)
		if len(want) > api.MaxSpans {
			want = nil
			many++
		} else if len(want) > 0 {
			some++
		}
		if got := span.Both(a, b); !same(got, want) {
			t.Fatalf("%v and %v: %v, want %v", a, b, got, want)
		}
		l := append(a, b...)
		random.Shuffle(len(l), func(i, j int) { l[i], l[j] = l[j], l[i] })
		if got, want := span.Join(l...), runs(seconds(l)); !same(got, want) {
			t.Fatalf("Join of %v: %v, want %v", l, got, want)
		}
	}
	if some < 1000 || many < 100 {
		t.Errorf("%d with some in common, %d with too many", some, many)
	}
}

// P7.4: what adjacent ranges have adds up, wherever they meet.
func TestAdjacentRangesAddUp(t *testing.T) {
	l := row(0, 10, 10, 20, 25, 30, api.Horizon-7, api.Horizon)
	places := []int64{math.MinInt64, -1, 0, 1, 9, 10, 11, 20, 22, 25, 29, 30, 31, 1 << 40, api.Horizon - 8, api.Horizon - 7, api.Horizon - 1, api.Horizon, math.MaxInt64}
	for i, a := range places {
		for j, b := range places[i:] {
			for _, c := range places[i+j:] {
				if span.Within(l, a, b)+span.Within(l, b, c) != span.Within(l, a, c) {
					t.Errorf("from %d by %d to %d", a, b, c)
				}
			}
		}
	}
}

// P7.1 to P7.3: arguments stay as they are, with what is behind them, and results are new memory.
func TestArgumentsAndResultsAreApart(t *testing.T) {
	fresh := func() []api.Span { return row(0, 5, 5, 10, 20, 30, 77, 88, 99, 98) }
	other := row(2, 25)
	for i, call := range []func(l []api.Span) []api.Span{
		func(l []api.Span) []api.Span { return span.Cut(l, 0, api.Horizon) },
		func(l []api.Span) []api.Span { return span.Cut(l, 6, 25) },
		func(l []api.Span) []api.Span { return span.Both(l, row(0, api.Horizon)) },
		func(l []api.Span) []api.Span { return span.Both(row(0, api.Horizon), l) },
		func(l []api.Span) []api.Span { return span.Both(l, other) },
		func(l []api.Span) []api.Span { return span.Both(l, l) },
		func(l []api.Span) []api.Span { return span.Join(l...) },
		func(l []api.Span) []api.Span { l[0], l[2] = l[2], l[0]; return span.Join(l...) },
	} {
		l := fresh()
		got := call(l[:3])
		want := slices.Clone(got)
		if i == 7 {
			l[0], l[2] = l[2], l[0]
		}
		if !same(l, fresh()) || !same(other, row(2, 25)) {
			t.Errorf("call %d: the argument is %v", i, l)
		}
		clear(l)
		if !same(got, want) {
			t.Errorf("call %d: the result changed with the argument", i)
		}
		l = fresh()
		got = call(l[:3])
		clear(got[:cap(got)])
		if i == 7 {
			l[0], l[2] = l[2], l[0]
		}
		if !same(l, fresh()) {
			t.Errorf("call %d: the argument changed with the result", i)
		}
	}
}

// P7.1 to P7.4 for lists of arbitrary bytes: each two are a begin and an end.
func FuzzSpan(f *testing.F) {
	f.Add([]byte{0, 5, 5, 10, 20, 30}, []byte{2, 25})
	f.Add([]byte{9, 5}, []byte{})
	f.Fuzz(func(t *testing.T, x, y []byte) {
		list := func(b []byte) []api.Span {
			var l []api.Span
			for i := 0; i+1 < len(b); i += 2 {
				l = append(l, api.Span{From: int64(b[i]) - 2, To: int64(b[i+1]) - 2})
			}
			return l
		}
		a, b := list(x), list(y)
		if span.Row(a) != api.OK {
			if span.Len(a) != 0 || span.Both(a, b) != nil || span.Cut(a, 0, 300) != nil {
				t.Fatalf("%v is no row", a)
			}
			return
		}
		checkRow(t, a, 0, 60)
		if got := span.Join(a...); !same(got, runs(seconds(a))) {
			t.Fatalf("Join of %v: %v", a, got)
		}
		if want := overlaps(a, b); span.Row(b) == api.OK && len(want) <= api.MaxSpans && !same(span.Both(a, b), want) {
			t.Fatalf("%v and %v: %v, want %v", a, b, span.Both(a, b), want)
		}
	})
}
