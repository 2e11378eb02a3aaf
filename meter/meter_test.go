package meter_test

import (
	"math"
	"math/rand/v2"
	"slices"
	"sync"
	"sync/atomic"
	"testing"

	"curfew/api"
	"curfew/meter"
)

// wantAll checks every result that tells the values.
func wantAll(t *testing.T, what string, m *meter.Meter, want ...uint64) {
	t.Helper()
	sum := uint64(0)
	for i, v := range want {
		sum += v
		if got := m.Get(i); got != v {
			t.Errorf("%s: Get(%d) is %d, want %d", what, i, got, v)
		}
	}
	if got := m.All(); !slices.Equal(got, want) {
		t.Errorf("%s: All %d, want %d", what, got, want)
	}
	if got := m.Sum(); got != sum {
		t.Errorf("%s: Sum %d, want %d", what, got, sum)
	}
	if got := m.Len(); got != len(want) {
		t.Errorf("%s: Len %d, want %d", what, got, len(want))
	}
}

// P5.1: the chapter's example.
func TestExample(t *testing.T) {
	m := meter.New(2)
	if v, e := m.Add(1, 5); v != 5 || e != api.OK {
		t.Errorf("Add: %d, error %d", v, int(e))
	}
	if e := m.Raise(1, 3); e != api.OK || m.Get(1) != 5 {
		t.Errorf("Raise: error %d, then %d", int(e), m.Get(1))
	}
	if v, e := m.Swap(1, 0); v != 5 || e != api.OK {
		t.Errorf("Swap: %d, error %d", v, int(e))
	}
	wantAll(t, "in the end", m, 0, 0)
}

// P5.1
func TestNewHasSoManyCounters(t *testing.T) {
	if meter.Most != 1<<62 {
		t.Errorf("Most %d", uint64(meter.Most))
	}
	for n := 1; n <= api.MaxMeters; n++ {
		m := meter.New(n)
		wantAll(t, "a new meter", m, make([]uint64, n)...)
		if v, e := m.Add(n-1, 1); v != 1 || e != api.OK {
			t.Errorf("the last of %d: %d, error %d", n, v, int(e))
		}
		if _, e := m.Add(n, 1); e != api.ErrArg {
			t.Errorf("behind the last of %d: error %d", n, int(e))
		}
	}
	for _, n := range []int{0, -1, math.MinInt, api.MaxMeters + 1, math.MaxInt} {
		if meter.New(n) != nil {
			t.Errorf("New(%d)", n)
		}
	}
}

// P5.1
func TestAdd(t *testing.T) {
	m := meter.New(3)
	for _, x := range []struct{ by, want uint64 }{{0, 0}, {1, 1}, {0, 1}, {4, 5}, {300, 305}, {1 << 61, 1<<61 + 305}, {1<<61 - 306, meter.Most - 1}, {1, meter.Most}, {0, meter.Most}} {
		if v, e := m.Add(1, x.by); v != x.want || e != api.OK {
			t.Errorf("Add(1, %d): %d, error %d, want %d", x.by, v, int(e), x.want)
		}
		wantAll(t, "Add", m, 0, x.want, 0)
	}
	if v, e := m.Add(2, meter.Most); v != meter.Most || e != api.OK {
		t.Errorf("all at once: %d, error %d", v, int(e))
	}
}

// P5.1: also where the sum would begin anew at 2^64.
func TestAddBeyondMost(t *testing.T) {
	for _, old := range []uint64{0, 1, 5, meter.Most - 1, meter.Most} {
		m := meter.New(1)
		m.Swap(0, old)
		for _, by := range []uint64{meter.Most - old + 1, meter.Most + 1, 1 << 63, math.MaxUint64 - old, math.MaxUint64 - old + 1, math.MaxUint64} {
			if by <= meter.Most-old {
				continue
			}
			if v, e := m.Add(0, by); v != 0 || e != api.ErrBig {
				t.Errorf("%d and %d: %d, error %d", old, by, v, int(e))
			}
			wantAll(t, "too much", m, old)
		}
		if v, e := m.Add(0, meter.Most-old); v != meter.Most || e != api.OK {
			t.Errorf("%d to Most: %d, error %d", old, v, int(e))
		}
	}
}

// P5.1
func TestRaise(t *testing.T) {
	m := meter.New(2)
	for _, x := range []struct{ to, want uint64 }{{0, 0}, {7, 7}, {6, 7}, {7, 7}, {0, 7}, {8, 8}, {meter.Most - 1, meter.Most - 1}, {meter.Most, meter.Most}, {meter.Most, meter.Most}, {1, meter.Most}} {
		if e := m.Raise(0, x.to); e != api.OK {
			t.Errorf("Raise(0, %d): error %d", x.to, int(e))
		}
		wantAll(t, "Raise", m, x.want, 0)
	}
}

// P5.1
func TestSwap(t *testing.T) {
	m := meter.New(2)
	old := uint64(0)
	for _, to := range []uint64{0, 7, 3, 3, 0, meter.Most, meter.Most - 1, 1} {
		if v, e := m.Swap(1, to); v != old || e != api.OK {
			t.Errorf("Swap(1, %d): %d, error %d, want %d", to, v, int(e), old)
		}
		wantAll(t, "Swap", m, 0, to)
		old = to
	}
}

// P5.1: what is above Most changes nothing.
func TestRaiseAndSwapBeyondMost(t *testing.T) {
	for _, old := range []uint64{0, 1, 5, meter.Most} {
		m := meter.New(2)
		m.Swap(1, old)
		for _, to := range []uint64{meter.Most + 1, 1 << 63, math.MaxUint64} {
			if e := m.Raise(1, to); e != api.ErrBig {
				t.Errorf("Raise(1, %d): error %d", to, int(e))
			}
			if v, e := m.Swap(1, to); v != 0 || e != api.ErrBig {
				t.Errorf("Swap(1, %d) of %d: %d, error %d", to, old, v, int(e))
			}
			wantAll(t, "too much", m, 0, old)
		}
	}
}

// P5.1 and P5.2: true once, and again only after the counter was reset.
func TestOnce(t *testing.T) {
	m := meter.New(2)
	for range 3 {
		if !m.Once(1) {
			t.Error("of 0")
		}
		wantAll(t, "Once", m, 0, 1)
		for range 3 {
			if m.Once(1) {
				t.Error("twice")
			}
		}
		wantAll(t, "Once twice", m, 0, 1)
		m.Swap(1, 0)
	}
	for _, v := range []uint64{1, 2, 300, meter.Most} {
		m.Swap(1, v)
		if m.Once(1) {
			t.Errorf("of %d", v)
		}
		wantAll(t, "Once", m, 0, v)
	}
}

// P5.1: an error that comes first hides those that come later, and nothing changes.
func TestCountersThatAreNotThere(t *testing.T) {
	for _, n := range []int{1, 2, api.MaxMeters} {
		m := meter.New(n)
		want := make([]uint64, n)
		for i := range n {
			want[i] = uint64(i + 10)
			m.Swap(i, want[i])
		}
		for _, i := range []int{-1, math.MinInt, n, n + 1, api.MaxMeters, math.MaxInt} {
			for _, by := range []uint64{0, 1, meter.Most, meter.Most + 1, math.MaxUint64} {
				v, e := m.Add(i, by)
				old, swap := m.Swap(i, by)
				if raise := m.Raise(i, by); v != 0 || old != 0 || e != api.ErrArg || swap != api.ErrArg || raise != api.ErrArg {
					t.Errorf("%d of %d, by %d: %d, %d, errors %d, %d, %d", i, n, by, v, old, int(e), int(swap), int(raise))
				}
			}
			if m.Get(i) != 0 || m.Once(i) {
				t.Errorf("%d of %d is there", i, n)
			}
			wantAll(t, "no such counter", m, want...)
		}
	}
}

// P5.1: a nil meter, and one that was not created by New.
func TestMetersThatAreNotThere(t *testing.T) {
	for _, m := range []*meter.Meter{nil, {}, new(meter.Meter)} {
		for _, i := range []int{0, 1, -1, api.MaxMeters - 1, api.MaxMeters, math.MaxInt} {
			for _, by := range []uint64{0, 1, meter.Most + 1, math.MaxUint64} {
				v, e := m.Add(i, by)
				old, swap := m.Swap(i, by)
				if raise := m.Raise(i, by); v != 0 || old != 0 || e != api.ErrNil || swap != api.ErrNil || raise != api.ErrNil {
					t.Errorf("%d, by %d: %d, %d, errors %d, %d, %d", i, by, v, old, int(e), int(swap), int(raise))
				}
			}
			if m.Once(i) || m.Get(i) != 0 || m.All() != nil || m.Sum() != 0 || m.Len() != 0 {
				t.Errorf("%d: Get %d, All %d, Sum %d, Len %d", i, m.Get(i), m.All(), m.Sum(), m.Len())
			}
		}
	}
}

// P5.1: a list that was returned and the meter do not change each other.
func TestAllIsApart(t *testing.T) {
	m := meter.New(2)
	m.Swap(0, 3)
	l := m.All()
	m.Swap(0, 4)
	if !slices.Equal(l, []uint64{3, 0}) {
		t.Errorf("%d after a change of the meter", l)
	}
	l[1] = 9
	_ = append(l[:0], 9, 9)
	wantAll(t, "after a change of the list", m, 4, 0)
}

// P5.1: all that there may be, which is 2^66, and what is left of it.
func TestSumIsModulo(t *testing.T) {
	m := meter.New(api.MaxMeters)
	want := make([]uint64, api.MaxMeters)
	for i := range want {
		want[i] = meter.Most
		m.Raise(i, meter.Most)
		wantAll(t, "Most", m, want...)
		if got := m.Sum(); got != uint64(i+1)%4<<62 {
			t.Errorf("Sum of %d times Most: %d", i+1, got)
		}
	}
	m.Swap(2, 7)
	if got := m.Sum(); got != 3<<62+7 {
		t.Errorf("Sum %d", got)
	}
}

// P5.2
func TestMetersAreApart(t *testing.T) {
	a, b := meter.New(2), meter.New(2)
	a.Add(1, 5)
	b.Once(0)
	wantAll(t, "one", a, 0, 5)
	wantAll(t, "the other", b, 1, 0)
}

// model has the values of counters, and changes them by the chapter's text.
type model []uint64

// set makes this the value of a counter, unless there is none or the value is too much.
func (l model) set(i int, value uint64) api.Errno {
	switch {
	case i < 0 || i >= len(l):
		return api.ErrArg
	case value > meter.Most:
		return api.ErrBig
	}
	l[i] = value
	return api.OK
}

// apply makes one call at both, and reports whether its results are those of the model.
func (l model) apply(m *meter.Meter, kind, i int, by uint64) bool {
	old := uint64(0)
	if i >= 0 && i < len(l) {
		old = l[i]
	}
	switch kind {
	case 0:
		// What is above Most at once is so with any addition too, and does not begin anew at 2^64.
		sum := by
		if by <= meter.Most {
			sum += old
		}
		want := l.set(i, sum)
		v, e := m.Add(i, by)
		return e == want && (e == api.OK && v == sum || e != api.OK && v == 0)
	case 1:
		return m.Raise(i, by) == l.set(i, max(old, by))
	case 2:
		want := l.set(i, by)
		v, e := m.Swap(i, by)
		return e == want && (e == api.OK && v == old || e != api.OK && v == 0)
	case 3:
		first := old == 0 && l.set(i, 1) == api.OK
		return m.Once(i) == first
	}
	return m.Get(i) == old
}

// P5.1 and P5.2: any calls, each of which changes no counter but its own.
func TestAnyCalls(t *testing.T) {
	random := rand.New(rand.NewPCG(5, 2))
	for range 300 {
		l := make(model, 1+random.IntN(api.MaxMeters))
		m := meter.New(len(l))
		for range 100 {
			kind, i := random.IntN(5), random.IntN(len(l)+2)-1
			by := random.Uint64() >> random.IntN(65)
			if random.IntN(4) == 0 {
				by = meter.Most - 1 + random.Uint64N(3)
			}
			if !l.apply(m, kind, i, by) {
				t.Fatalf("call %d of counter %d with %d; then %d", kind, i, by, l)
			}
			wantAll(t, "any call", m, l...)
		}
		if t.Failed() {
			return
		}
	}
}

// together runs f in several goroutines that begin at the same time.
func together(f func(worker int)) {
	var begin, end sync.WaitGroup
	begin.Add(1)
	for worker := range 8 {
		end.Go(func() {
			begin.Wait()
			f(worker)
		})
	}
	begin.Done()
	end.Wait()
}

// P5.1 and P5.2: calls at the same time lose nothing, and disturb no other counter.
func TestCallsAtTheSameTime(t *testing.T) {
	const calls = 50_000
	m := meter.New(4)
	m.Swap(2, meter.Most-calls)
	var added, rejected atomic.Uint64
	together(func(worker int) {
		for i := range calls {
			m.Add(0, 3)
			m.Raise(1, uint64(i*8+worker))
			if v, e := m.Add(2, 1); e == api.OK && v <= meter.Most {
				added.Add(1)
			} else if e == api.ErrBig && v == 0 {
				rejected.Add(1)
			}
		}
	})
	wantAll(t, "in the end", m, 8*3*calls, calls*8-1, meter.Most, 0)
	if added.Load() != calls || rejected.Load() != 7*calls {
		t.Errorf("%d added, %d rejected", added.Load(), rejected.Load())
	}
}

// P5.2: of those who ask at the same time, one is the first.
func TestOnceAtTheSameTime(t *testing.T) {
	const rounds = 3000
	for range rounds {
		m := meter.New(api.MaxMeters)
		var first [api.MaxMeters]atomic.Int64
		together(func(int) {
			for i := range api.MaxMeters {
				if m.Once(i) {
					first[i].Add(1)
				}
			}
		})
		for i := range first {
			if n := first[i].Load(); n != 1 || m.Get(i) != 1 {
				t.Fatalf("counter %d: %d were the first, value %d", i, n, m.Get(i))
			}
		}
	}
}

// P5.2: what is swapped out at the same time was swapped in once.
func TestSwapsAtTheSameTime(t *testing.T) {
	const calls = 50_000
	m := meter.New(1)
	var in, out atomic.Uint64
	together(func(worker int) {
		for i := range calls {
			to := uint64(worker*calls + i)
			in.Add(to)
			old, _ := m.Swap(0, to)
			out.Add(old)
		}
	})
	if out.Load()+m.Get(0) != in.Load() {
		t.Errorf("%d in, %d out, %d left", in.Load(), out.Load(), m.Get(0))
	}
}
