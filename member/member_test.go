package member_test

import (
	"bytes"
	"math"
	"math/bits"
	"math/rand/v2"
	"slices"
	"testing"

	"curfew/api"
	"curfew/member"
)

// sets is the number of sets of nodes; a set has node n if bit n is 1.
const sets = 1 << api.MaxNodes

// outside are numbers that no node has.
var outside = []int{-1, -2, -64, math.MinInt, math.MinInt + 1, api.MaxNodes, api.MaxNodes + 1, 63, 64, 1 << 32, 1<<32 + 1, math.MaxInt}

// row returns the nodes of a set in ascending order, with nothing to spare.
func row(set int) []int {
	l := []int{}
	for n := 0; n < 7; n++ {
		if set>>n&1 == 1 {
			l = append(l, n)
		}
	}
	return slices.Clip(l)
}

// in returns a function that is true for the nodes of a set.
func in(set int) func(n int) bool {
	return func(n int) bool { return n >= 0 && n < 7 && set>>n&1 == 1 }
}

// half reports whether more than half of the first set is in the second one.
func half(of, set int) bool {
	return 2*bits.OnesCount(uint(of&set)) > bits.OnesCount(uint(of))
}

// others returns lists that are not rows.
func others() [][]int {
	l := [][]int{
		nil, {}, {0, 0}, {6, 6}, {1, 0}, {6, 5}, {0, 2, 1}, {0, 2, 2}, {0, 0, 2}, {0, 2, 0}, {2, 1, 0}, {5, 6, 7}, {-1, 0, 1}, {0, 1, 2, 3, 4, 5, 6, 6}, {0, 0, 1, 2, 3, 4, 5, 6}, {0, 1, 2, 3, 4, 5, 6, 7}, {-1, 0, 1, 2, 3, 4, 5, 6}, {6, 5, 4, 3, 2, 1, 0},
		{0, 1, 2, 3, 5, 4, 6}, {0, 1, 3, 3, 4, 5, 6}, make([]int, 300), slices.Repeat([]int{0, 1, 2}, 100),
	}
	for _, n := range outside {
		l = append(l, []int{n}, []int{n, 3}, []int{3, n}, []int{2, n, 3})
	}
	return l
}

// rowed reports whether a list is a row, by the chapter's words.
func rowed(l []int) bool {
	for i, n := range l {
		if n < 0 || n > 6 || i > 0 && n <= l[i-1] {
			return false
		}
	}
	return len(l) >= 1 && len(l) <= 7
}

// lists calls what it is given with each list of at most 4 numbers from -2 to 8.
func lists(do func(l []int)) {
	var longer func(l []int)
	longer = func(l []int) {
		do(l)
		if len(l) == 4 {
			return
		}
		for n := -2; n <= 8; n++ {
			longer(append(slices.Clone(l), n))
		}
	}
	longer(nil)
}

// roomy returns a list with spare capacity, and whether nothing there was changed.
func roomy(set int) (l []int, untouched func() bool) {
	whole := slices.Concat(row(set), []int{99, 98, 97})
	before := slices.Clone(whole)
	return whole[:len(whole)-3], func() bool { return slices.Equal(whole, before) }
}

// want compares a list and an error.
func want(t *testing.T, what string, a, b any, got []int, e api.Errno, l []int, why api.Errno) {
	t.Helper()
	if !slices.Equal(got, l) || e != why || e != api.OK && got != nil {
		t.Errorf("%s(%v, %v): %v, error %d, want %v, error %d", what, a, b, got, int(e), l, int(why))
	}
}

// The chapter's example.
func TestExample(t *testing.T) {
	if got := member.Quorum([]int{0, 1, 2, 3}); got != 3 {
		t.Errorf("Quorum: %d", got)
	}
	l, e := member.With([]int{0, 2}, 1)
	want(t, "With", []int{0, 2}, 1, l, e, []int{0, 1, 2}, api.OK)
	if b, e := member.Bytes(l); string(b) != "\x01\x07" || e != api.OK {
		t.Errorf("Bytes: % x, error %d", b, int(e))
	}
}

// P29.1: rows.
func TestSound(t *testing.T) {
	for set := range sets {
		if got := member.Sound(row(set)); got != (set != 0) {
			t.Errorf("%v: %t", row(set), got)
		}
	}
	for _, l := range others() {
		if member.Sound(l) {
			t.Errorf("%v is a row", l)
		}
	}
	lists(func(l []int) {
		if got := member.Sound(l); got != rowed(l) {
			t.Errorf("%v: %t", l, got)
		}
	})
	l, untouched := roomy(5)
	if !member.Sound(l) || !untouched() {
		t.Error("with spare capacity")
	}
}

// P29.1: of any list.
func TestHas(t *testing.T) {
	check := func(l []int) {
		for n := -3; n <= 9; n++ {
			if got := member.Has(l, n); got != slices.Contains(l, n) {
				t.Errorf("Has(%v, %d): %t", l, n, got)
			}
		}
	}
	lists(check)
	for _, l := range others() {
		check(l)
		for _, n := range l {
			if !member.Has(l, n) {
				t.Errorf("Has(%v, %d)", l, n)
			}
		}
	}
	for set := range sets {
		for n := range 7 {
			if got := member.Has(row(set), n); got != in(set)(n) {
				t.Errorf("Has(%v, %d): %t", row(set), n, got)
			}
		}
		for _, n := range outside {
			if member.Has(row(set), n) {
				t.Errorf("Has(%v, %d)", row(set), n)
			}
		}
	}
	if member.Has([]int{0, 1, 2}[:2], 2) {
		t.Error("beyond the end")
	}
}

// P29.1: more than half.
func TestQuorum(t *testing.T) {
	for set := range sets {
		l := row(set)
		if got, size := member.Quorum(l), []int{0, 1, 2, 2, 3, 3, 4, 4}[len(l)]; got != size {
			t.Errorf("Quorum(%v): %d, want %d", l, got, size)
		}
	}
	for _, l := range others() {
		if got := member.Quorum(l); got != 0 {
			t.Errorf("Quorum(%v): %d", l, got)
		}
	}
}

// P29.1: whoever else it is true for.
func TestReached(t *testing.T) {
	for set := range sets {
		for yes := range sets {
			if got := member.Reached(row(set), in(yes)); got != (set != 0 && half(set, yes)) {
				t.Errorf("Reached(%v, %v): %t", row(set), row(yes), got)
			}
		}
		always, never := func(int) bool { return true }, func(int) bool { return false }
		if got := member.Reached(row(set), always); got != (set != 0) {
			t.Errorf("Reached(%v) with all: %t", row(set), got)
		}
		if member.Reached(row(set), never) || member.Reached(row(set), nil) {
			t.Errorf("Reached(%v) with none", row(set))
		}
	}
	for _, l := range others() {
		for _, has := range []func(int) bool{nil, in(0), in(sets - 1), func(int) bool { return true }} {
			if member.Reached(l, has) {
				t.Errorf("Reached(%v)", l)
			}
		}
	}
}

// P29.1: it is the members that are asked, each once.
func TestReachedAsks(t *testing.T) {
	for set := range sets {
		for yes := range sets {
			asked := [7]int{}
			member.Reached(row(set), func(n int) bool {
				if !in(set)(n) {
					t.Fatalf("%v: %d was asked", row(set), n)
				}
				asked[n]++
				return in(yes)(n)
			})
			for n, times := range asked {
				if times > 1 {
					t.Fatalf("%v: %d was asked %d times", row(set), n, times)
				}
			}
		}
	}
}

// General rule 1: a function that panics for some members is not true for those.
func TestReachedDoesNotPanic(t *testing.T) {
	for set := range sets {
		for yes := range sets {
			got := member.Reached(row(set), func(n int) bool {
				if !in(yes)(n) {
					panic("no answer")
				}
				return true
			})
			if got != (set != 0 && half(set, yes)) {
				t.Errorf("Reached(%v, %v): %t", row(set), row(yes), got)
			}
		}
	}
}

// P29.1: of all rows, and of lists that are not.
func TestNear(t *testing.T) {
	for a := range sets {
		for b := range sets {
			near := a != 0 && b != 0 && bits.OnesCount(uint(a^b)) <= 1
			if got := member.Near(row(a), row(b)); got != near {
				t.Errorf("Near(%v, %v): %t", row(a), row(b), got)
			}
		}
		for _, l := range others() {
			if member.Near(row(a), l) || member.Near(l, row(a)) {
				t.Errorf("Near: %v and %v", row(a), l)
			}
		}
	}
	for _, a := range others() {
		for _, b := range others() {
			if member.Near(a, b) {
				t.Errorf("Near(%v, %v)", a, b)
			}
		}
	}
}

// P29.1: of any lists.
func TestSame(t *testing.T) {
	all := others()
	for set := range sets {
		all = append(all, row(set))
	}
	for i, a := range all {
		for k, b := range all {
			if got := member.Same(a, b); got != slices.Equal(a, b) || i == k && !got {
				t.Errorf("Same(%v, %v): %t", a, b, got)
			}
		}
		if longer := append(slices.Clone(a), 0); member.Same(a, longer) || member.Same(longer, a) {
			t.Errorf("%v is as if longer", a)
		}
	}
	if !member.Same(nil, []int{}) || !member.Same([]int{}, nil) || !member.Same([]int{0, 1, 2}[:2], []int{0, 1}) || member.Same([]int{0, 1}, []int{1, 0}) {
		t.Error("Same")
	}
}

// P29.2: each node with each row.
func TestWith(t *testing.T) {
	for set := 1; set < sets; set++ {
		for n := range 7 {
			l, e := member.With(row(set), n)
			if in(set)(n) {
				want(t, "With", row(set), n, l, e, nil, api.ErrThere)
			} else {
				want(t, "With", row(set), n, l, e, row(set|1<<n), api.OK)
			}
		}
	}
}

// P29.2: each node of each row.
func TestWithout(t *testing.T) {
	for set := 1; set < sets; set++ {
		for n := range 7 {
			l, e := member.Without(row(set), n)
			switch {
			case !in(set)(n):
				want(t, "Without", row(set), n, l, e, nil, api.ErrNone)
			case set == 1<<n:
				want(t, "Without", row(set), n, l, e, nil, api.ErrState)
			default:
				want(t, "Without", row(set), n, l, e, row(set&^(1<<n)), api.OK)
			}
		}
	}
}

// P29.2: what is no row, and what is no node, is ErrArg, whatever else applies.
func TestArguments(t *testing.T) {
	for name, call := range map[string]func(l []int, n int) ([]int, api.Errno){"With": member.With, "Without": member.Without} {
		for set := range sets {
			for _, n := range outside {
				l, e := call(row(set), n)
				want(t, name, row(set), n, l, e, nil, api.ErrArg)
			}
		}
		for _, bad := range others() {
			for _, n := range append([]int{0, 1, 2, 3, 4, 5, 6}, outside...) {
				l, e := call(bad, n)
				want(t, name, bad, n, l, e, nil, api.ErrArg)
			}
		}
	}
}

// P29.2: results are in new memory, and arguments stay as they are.
func TestApart(t *testing.T) {
	for set := 1; set < sets; set++ {
		for n := range 7 {
			for name, call := range map[string]func(l []int, n int) ([]int, api.Errno){"With": member.With, "Without": member.Without} {
				l, untouched := roomy(set)
				got, _ := call(l, n)
				if !untouched() {
					t.Fatalf("%s(%v, %d) changed its argument", name, row(set), n)
				}
				before := slices.Clone(got)
				spoilt := got[:cap(got)]
				for i := range spoilt {
					spoilt[i] = 77
				}
				if !untouched() {
					t.Fatalf("%s(%v, %d): a change of the result changed the argument", name, row(set), n)
				}
				if again, _ := call(l, n); !slices.Equal(again, before) {
					t.Fatalf("%s(%v, %d): a change of the result changed the next one", name, row(set), n)
				}
			}
		}
	}
}

// P29.3: each row by hand, and what is no row.
func TestBytes(t *testing.T) {
	for set := 1; set < sets; set++ {
		l, untouched := roomy(set)
		b, e := member.Bytes(l)
		if !bytes.Equal(b, []byte{1, byte(set)}) || e != api.OK {
			t.Errorf("Bytes(%v): % x, error %d", row(set), b, int(e))
		}
		clear(b[:cap(b)])
		if again, _ := member.Bytes(l); !untouched() || !bytes.Equal(again, []byte{1, byte(set)}) {
			t.Errorf("the bytes of %v are not apart", row(set))
		}
	}
	for _, l := range others() {
		if b, e := member.Bytes(l); b != nil || e != api.ErrArg {
			t.Errorf("Bytes(%v): % x, error %d", l, b, int(e))
		}
	}
	for _, x := range []struct {
		l []int
		b []byte
	}{{[]int{0}, []byte{1, 1}}, {[]int{6}, []byte{1, 64}}, {[]int{0, 6}, []byte{1, 65}}, {[]int{1, 3, 5}, []byte{1, 42}}, {[]int{0, 1, 2, 3, 4, 5, 6}, []byte{1, 127}}} {
		if b, e := member.Bytes(x.l); !bytes.Equal(b, x.b) || e != api.OK {
			t.Errorf("Bytes(%v): % x, error %d", x.l, b, int(e))
		}
		if l, ok := member.Read(x.b); !slices.Equal(l, x.l) || !ok {
			t.Errorf("Read(% x): %v, %t", x.b, l, ok)
		}
	}
}

// checkRead checks that bytes are read as a row only if they are its encoding.
func checkRead(t *testing.T, b []byte) {
	t.Helper()
	before := bytes.Clone(b)
	l, ok := member.Read(b)
	switch {
	case !bytes.Equal(b, before):
		t.Errorf("Read changed % x to % x", before, b)
	case len(b) == 2 && b[0] == 1 && b[1] >= 1 && b[1] <= 127:
		if !ok || !slices.Equal(l, row(int(b[1]))) {
			t.Errorf("Read(% x): %v, %t", b, l, ok)
		}
	case ok || l != nil:
		t.Errorf("Read(% x): %v, %t", b, l, ok)
	}
}

// P29.3: all bytes of at most 2, and some longer ones.
func TestRead(t *testing.T) {
	checkRead(t, nil)
	checkRead(t, []byte{})
	for i := range 256 {
		checkRead(t, []byte{byte(i)})
		for k := range 256 {
			checkRead(t, []byte{byte(i), byte(k)})
			checkRead(t, []byte{1, byte(i), byte(k)})
			checkRead(t, []byte{2, byte(i), byte(k)})
		}
	}
	for _, b := range [][]byte{
		{2, 0, 7}, {3, 0, 0, 7}, {8, 0, 0, 0, 0, 0, 0, 0, 7}, {5, 1, 0, 0, 0, 7}, {8, 255, 255, 255, 255, 255, 255, 255, 255}, {8, 128, 0, 0, 0, 0, 0, 0, 7}, {9, 1, 0, 0, 0, 0, 0, 0, 0, 7}, {129, 7}, {1, 7, 0}, {1, 7, 1, 7}, {0, 1, 7}, make([]byte, 300), bytes.Repeat([]byte{1}, 300),
	} {
		checkRead(t, b)
	}
	b := []byte{1, 7, 9}
	checkRead(t, b[:2])
	l, _ := member.Read(b[:2])
	clear(b)
	if !slices.Equal(l, []int{0, 1, 2}) {
		t.Errorf("a change of the bytes gave %v", l)
	}
	clear(l[:cap(l)])
	if l, ok := member.Read([]byte{1, 7}); !slices.Equal(l, []int{0, 1, 2}) || !ok {
		t.Errorf("a change of the result gave %v", l)
	}
}

// P29.3: Read undoes Bytes.
func TestReadAsWritten(t *testing.T) {
	for set := 1; set < sets; set++ {
		b, _ := member.Bytes(row(set))
		if l, ok := member.Read(b); !slices.Equal(l, row(set)) || !ok {
			t.Errorf("%v was read as %v", row(set), l)
		}
		for n := range b {
			checkRead(t, b[:n])
		}
		checkRead(t, append(b, 0))
		checkRead(t, append(b, b...))
	}
}

// P29.4: of two rows that are Near, no quorum of one is without the members of a quorum of the other.
func TestNearQuorumsMeet(t *testing.T) {
	near, apart := 0, 0
	for a := range sets {
		for b := range sets {
			meet := true
			for yes := range sets {
				if member.Reached(row(a), in(yes)) && member.Reached(row(b), in(^yes)) {
					meet = false
				}
			}
			switch {
			case !member.Near(row(a), row(b)):
				if !meet {
					apart++
				}
			case !meet:
				t.Errorf("%v and %v", row(a), row(b))
			default:
				near++
			}
		}
	}
	// Each of 127 rows is near itself, and each of 441 pairs that differ in one node in both orders.
	if near != 127+2*441 || apart == 0 {
		t.Errorf("%d pairs are near, %d have quorums apart", near, apart)
	}
}

// P29.2: from any row to any other one, one node after the other, each near the one before it.
func TestSteps(t *testing.T) {
	random := rand.New(rand.NewPCG(29, 2))
	set := 1 + random.IntN(sets-1)
	l := row(set)
	for range 5000 {
		n := random.IntN(7)
		call := member.With
		if in(set)(n) {
			call = member.Without
		}
		next, e := call(l, n)
		if set == 1<<n {
			want(t, "Without", l, n, next, e, nil, api.ErrState)
			continue
		}
		set ^= 1 << n
		if e != api.OK || !slices.Equal(next, row(set)) || !member.Near(l, next) || member.Same(l, next) {
			t.Fatalf("%v to %v, error %d", l, next, int(e))
		}
		l = next
	}
}

// P29.1, P29.2, P29.3 for any lists and any bytes: no call panics.
func FuzzMember(f *testing.F) {
	f.Add([]byte{0, 2}, 1)
	f.Add([]byte{1, 7}, 2)
	f.Add([]byte{0, 1, 2, 3, 4, 5, 6}, 7)
	f.Fuzz(func(t *testing.T, b []byte, n int) {
		checkRead(t, b)
		var l []int
		for _, c := range b {
			l = append(l, int(int8(c)))
		}
		if member.Sound(l) != rowed(l) || member.Has(l, n) != slices.Contains(l, n) {
			t.Fatalf("%v, %d", l, n)
		}
		if quorum := member.Quorum(l); rowed(l) != (2*quorum > len(l)) || 2*quorum > len(l)+2 {
			t.Fatalf("Quorum(%v): %d", l, quorum)
		}
		if e, ok := member.Bytes(l); (ok == api.OK) != rowed(l) || rowed(l) && len(e) != 2 {
			t.Fatalf("Bytes(%v): % x", l, e)
		}
		more, e := member.With(l, n)
		if (e == api.OK) != (rowed(l) && n >= 0 && n < 7 && !slices.Contains(l, n)) {
			t.Fatalf("With(%v, %d): error %d", l, n, int(e))
		}
		if e != api.OK {
			return
		}
		if back, e := member.Without(more, n); e != api.OK || !slices.Equal(back, l) || !member.Near(l, more) || !member.Near(more, l) {
			t.Fatalf("Without(%v, %d): %v, error %d", more, n, back, int(e))
		}
	})
}
