package lazy_test

import (
	"math"
	"math/rand/v2"
	"runtime"
	"slices"
	"sync"
	"sync/atomic"
	"testing"

	"curfew/api"
	"curfew/lazy"
)

// counted returns a function that creates the values 100, 101, ..., and its calls.
func counted() (build func() int, calls *int) {
	calls = new(int)
	return func() int {
		*calls++
		return 99 + *calls
	}, calls
}

// P4.1, and the chapter's example.
func TestCellIsCreatedOnce(t *testing.T) {
	build, calls := counted()
	c := lazy.New(build)
	if *calls != 0 || c.Made() || c.Asked() != 0 {
		t.Errorf("a new cell: %d calls, Made %t, Asked %d", *calls, c.Made(), c.Asked())
	}
	for i := range 3 {
		if v := c.Get(); v != 100 || *calls != 1 || !c.Made() || c.Asked() != int64(i+1) {
			t.Errorf("Get %d: %d, %d calls, Made %t, Asked %d", i+1, v, *calls, c.Made(), c.Asked())
		}
	}
	// Questions are no requests.
	for range 5 {
		c.Made()
		c.Asked()
	}
	if c.Asked() != 3 || *calls != 1 {
		t.Errorf("after three Gets: Asked %d, %d calls", c.Asked(), *calls)
	}
}

// P4.1: asking whether there is a value does not create it.
func TestQuestionsCreateNothing(t *testing.T) {
	build, calls := counted()
	c := lazy.New(build)
	for range 3 {
		if c.Made() || c.Asked() != 0 || *calls != 0 {
			t.Errorf("Made %t, Asked %d, %d calls", c.Made(), c.Asked(), *calls)
		}
	}
}

// P4.1: a value is requested once the first Get has begun.
func TestCellIsNotEmptyWhileItIsCreated(t *testing.T) {
	var c *lazy.Cell[string]
	made, asked := false, int64(0)
	c = lazy.New(func() string {
		made, asked = c.Made(), c.Asked()
		return "x"
	})
	if c.Get() != "x" || !made || asked != 1 {
		t.Errorf("during the first Get: Made %t, Asked %d", made, asked)
	}
}

// P4.1: a zero value that was created is as good as any other.
func TestZeroValuesAreCreatedOnce(t *testing.T) {
	calls := 0
	c := lazy.New(func() []int {
		calls++
		return nil
	})
	for range 3 {
		if c.Get() != nil {
			t.Errorf("%v", c.Get())
		}
	}
	if calls != 1 || !c.Made() {
		t.Errorf("%d calls, Made %t", calls, c.Made())
	}
}

// P4.1
func TestCellWithoutFunction(t *testing.T) {
	var plain lazy.Cell[string]
	for name, c := range map[string]*lazy.Cell[string]{"New(nil)": lazy.New[string](nil), "plain": &plain, "new": new(lazy.Cell[string])} {
		if c.Made() || c.Asked() != 0 {
			t.Errorf("%s: Made %t, Asked %d", name, c.Made(), c.Asked())
		}
		for i := range 3 {
			if v := c.Get(); v != "" || !c.Made() || c.Asked() != int64(i+1) {
				t.Errorf("%s, Get %d: %q, Made %t, Asked %d", name, i+1, v, c.Made(), c.Asked())
			}
		}
	}
}

// P4.1
func TestCellOfAValue(t *testing.T) {
	c := lazy.Of("v")
	if !c.Made() || c.Asked() != 0 {
		t.Errorf("Made %t, Asked %d", c.Made(), c.Asked())
	}
	for i := range 3 {
		if v := c.Get(); v != "v" || !c.Made() || c.Asked() != int64(i+1) {
			t.Errorf("Get %d: %q, Made %t, Asked %d", i+1, v, c.Made(), c.Asked())
		}
	}
	if zero := lazy.Of(0); !zero.Made() || zero.Get() != 0 {
		t.Error("the zero value")
	}
	type pair struct{ a, b int }
	if p := lazy.Of(pair{1, 2}); p.Get() != (pair{1, 2}) {
		t.Errorf("%v", p.Get())
	}
	if f := lazy.Of[func() int](nil); !f.Made() || f.Get() != nil {
		t.Error("a nil function as a value")
	}
}

// P4.1
func TestNilCell(t *testing.T) {
	var c *lazy.Cell[string]
	for range 2 {
		if v := c.Get(); v != "" || c.Made() || c.Asked() != 0 {
			t.Errorf("%q, Made %t, Asked %d", v, c.Made(), c.Asked())
		}
	}
	var p *lazy.Cell[*int]
	if p.Get() != nil {
		t.Error("a value of a nil cell")
	}
}

// P4.1: cells neither share values nor counts.
func TestCellsAreApart(t *testing.T) {
	build, calls := counted()
	a, b := lazy.New(build), lazy.New(build)
	if a.Get() != 100 || b.Made() || b.Asked() != 0 || b.Get() != 101 || a.Get() != 100 || *calls != 2 {
		t.Errorf("%d, %d, %d calls", a.Get(), b.Get(), *calls)
	}
	if a.Asked() != 2 || b.Asked() != 1 {
		t.Errorf("Asked %d, %d", a.Asked(), b.Asked())
	}
	// A function may request other cells.
	c := lazy.New(func() int { return a.Get() + b.Get() })
	if c.Get() != 201 || c.Get() != 201 || *calls != 2 {
		t.Errorf("%d", c.Get())
	}
}

// P4.1 with the general rule that no call panics: the value of a function that panics is the zero value, and it is not called again.
func TestFunctionsThatPanic(t *testing.T) {
	calls := 0
	c := lazy.New(func() int {
		calls++
		panic("x")
	})
	for i := range 3 {
		if v := c.Get(); v != 0 || !c.Made() || c.Asked() != int64(i+1) || calls != 1 {
			t.Errorf("Get %d: %d, Made %t, Asked %d, %d calls", i+1, v, c.Made(), c.Asked(), calls)
		}
	}
	l := lazy.Rows(3, func(i int) int64 {
		calls++
		return int64([]int{7, 8}[i])
	})
	for range 2 {
		if v, ok := l.At(2); v != 0 || !ok || l.Made() != 1 || calls != 2 {
			t.Errorf("the row: %d, %t, Made %d, %d calls", v, ok, l.Made(), calls)
		}
	}
	if v, ok := l.At(1); v != 8 || !ok || l.Made() != 2 {
		t.Errorf("another row: %d, %t, Made %d", v, ok, l.Made())
	}
}

// P4.2
func TestRowsAreCreatedOnce(t *testing.T) {
	calls := make([]int, 5)
	l := lazy.Rows(5, func(i int) int64 {
		calls[i]++
		return int64(100*i + calls[i])
	})
	if l.Len() != 5 || l.Made() != 0 {
		t.Errorf("a new table: Len %d, Made %d", l.Len(), l.Made())
	}
	want := make([]int, 5)
	made := 0
	for _, i := range []int{3, 3, 0, 4, 3, 0, 1, 4} {
		if want[i] == 0 {
			want[i] = 1
			made++
		}
		if v, ok := l.At(i); v != int64(100*i+1) || !ok {
			t.Errorf("At(%d): %d, %t", i, v, ok)
		}
		if l.Made() != made || l.Len() != 5 || !slices.Equal(calls, want) {
			t.Errorf("after At(%d): Made %d, want %d, Len %d, calls %v", i, l.Made(), made, l.Len(), calls)
		}
	}
}

// P4.2
func TestRowsThatAreNotThere(t *testing.T) {
	calls := 0
	row := func(int) int64 {
		calls++
		return 1
	}
	for _, n := range []int{0, 1, 2, 7, api.MaxText} {
		l := lazy.Rows(n, row)
		for _, i := range []int{-1, n, n + 1, math.MaxInt, math.MinInt, api.MaxText, api.MaxText + 1} {
			if v, ok := l.At(i); v != 0 || ok {
				t.Errorf("%d rows, At(%d): %d, %t", n, i, v, ok)
			}
		}
		if l.Len() != n || l.Made() != 0 || calls != 0 {
			t.Errorf("%d rows: Len %d, Made %d, %d calls", n, l.Len(), l.Made(), calls)
		}
	}
}

// P4.2
func TestTablesWithoutRows(t *testing.T) {
	row := func(int) int64 { return 1 }
	for _, l := range []*lazy.Table{nil, {}, lazy.Rows(0, row), lazy.Rows(-1, row), lazy.Rows(math.MinInt, row), lazy.Rows(api.MaxText+1, row), lazy.Rows(math.MaxInt, row), lazy.Rows(-1, nil)} {
		for _, i := range []int{0, 1, -1, math.MaxInt, math.MinInt} {
			if v, ok := l.At(i); v != 0 || ok {
				t.Errorf("At(%d): %d, %t", i, v, ok)
			}
		}
		if l.Len() != 0 || l.Made() != 0 {
			t.Errorf("Len %d, Made %d", l.Len(), l.Made())
		}
	}
	for _, n := range []int{0, -1, api.MaxText + 1} {
		if lazy.Rows(n, row) == nil {
			t.Errorf("Rows(%d) is nil", n)
		}
	}
}

// P4.2: as many rows as there may be, the first and the last among them.
func TestLargeTables(t *testing.T) {
	calls := 0
	l := lazy.Rows(api.MaxText, func(i int) int64 {
		calls++
		return -int64(i)
	})
	for _, i := range []int{api.MaxText - 1, 0, 1000} {
		if v, ok := l.At(i); v != -int64(i) || !ok {
			t.Errorf("At(%d): %d, %t", i, v, ok)
		}
	}
	if l.Len() != api.MaxText || l.Made() != 3 || calls != 3 {
		t.Errorf("Len %d, Made %d, %d calls", l.Len(), l.Made(), calls)
	}
}

// P4.2
func TestRowsWithoutFunction(t *testing.T) {
	l := lazy.Rows(3, nil)
	if l.Len() != 3 || l.Made() != 0 {
		t.Errorf("Len %d, Made %d", l.Len(), l.Made())
	}
	for i := range 3 {
		if v, ok := l.At(i); v != 0 || !ok || l.Made() != i+1 {
			t.Errorf("At(%d): %d, %t, Made %d", i, v, ok, l.Made())
		}
	}
	if v, ok := l.At(3); v != 0 || ok || l.Made() != 3 {
		t.Errorf("At(3): %d, %t, Made %d", v, ok, l.Made())
	}
}

// P4.2: a row that is just being created was not created yet, and rows may request others.
func TestRowsThatRequestOthers(t *testing.T) {
	var l *lazy.Table
	var made []int
	l = lazy.Rows(6, func(i int) int64 {
		made = append(made, l.Made())
		if i == 0 {
			return 1
		}
		before, _ := l.At(i - 1)
		return 2 * before
	})
	if v, ok := l.At(5); v != 32 || !ok {
		t.Errorf("At(5): %d, %t", v, ok)
	}
	if l.Made() != 6 || !slices.Equal(made, make([]int, 6)) {
		t.Errorf("Made %d, and %v when each row was begun", l.Made(), made)
	}
}

// P4.3: in any order of requests.
func TestAnyOrderGivesTheSame(t *testing.T) {
	random := rand.New(rand.NewPCG(4, 3))
	for range 200 {
		n := 1 + random.IntN(20)
		calls := 0
		l := lazy.Rows(n, func(i int) int64 {
			calls++
			return int64(1000*i + calls)
		})
		build, built := counted()
		c := lazy.New(build)
		got := map[int]int64{}
		gets := 0
		for range 60 {
			if i := random.IntN(n+2) - 1; i >= 0 && i < n {
				v, ok := l.At(i)
				if first, there := got[i]; !ok || there && first != v || v/1000 != int64(i) {
					t.Fatalf("At(%d): %d, %t, first %d", i, v, ok, first)
				}
				got[i] = v
			} else if v := c.Get(); v != 100 {
				t.Fatalf("Get: %d", v)
			} else {
				gets++
			}
			if calls != len(got) || l.Made() != len(got) || *built > 1 || c.Made() != (gets > 0) || c.Asked() != int64(gets) {
				t.Fatalf("%d rows by %d calls, Made %d; %d Gets by %d calls, Made %t, Asked %d", len(got), calls, l.Made(), gets, *built, c.Made(), c.Asked())
			}
		}
	}
}

// P4.3: also if many request at the same time.
func TestRequestsAtTheSameTime(t *testing.T) {
	const workers, rows = 8, 50
	var built, calls atomic.Int64
	c := lazy.New(func() int64 { return built.Add(1) })
	l := lazy.Rows(rows, func(i int) int64 { return calls.Add(1)<<32 | int64(i) })
	var got [workers][rows]int64
	var values [workers]int64
	var all sync.WaitGroup
	for w := range workers {
		all.Go(func() {
			for i := range rows {
				at := (i*7 + w*13) % rows
				got[w][at], _ = l.At(at)
				values[w] = c.Get()
				if !c.Made() || c.Asked() < 1 || l.Made() < 1 {
					t.Error("nothing was made")
				}
			}
		})
	}
	all.Wait()
	for w := range workers {
		if got[w] != got[0] || values[w] != 1 {
			t.Errorf("worker %d got other values", w)
		}
	}
	if built.Load() != 1 || calls.Load() != rows || l.Made() != rows || c.Asked() != workers*rows {
		t.Errorf("%d and %d calls, Made %d, Asked %d", built.Load(), calls.Load(), l.Made(), c.Asked())
	}
}

// P4.3: a request during another one waits for the value instead of creating it, or returning something else.
func TestRequestsWaitForTheValue(t *testing.T) {
	begun, end := make(chan struct{}), make(chan struct{})
	var calls atomic.Int64
	build := func() int64 {
		if calls.Add(1) == 1 {
			close(begun)
		}
		<-end
		return 7
	}
	c := lazy.New(build)
	l := lazy.Rows(1, func(int) int64 { return c.Get() })
	var got [8]int64
	var all sync.WaitGroup
	all.Go(func() { got[0] = c.Get() })
	<-begun
	for w := 1; w < len(got); w++ {
		all.Go(func() {
			if w%2 == 0 {
				got[w], _ = l.At(0)
			} else {
				got[w] = c.Get()
			}
		})
	}
	for c.Asked() < 6 {
		runtime.Gosched()
	}
	close(end)
	all.Wait()
	if got != [8]int64{7, 7, 7, 7, 7, 7, 7, 7} || calls.Load() != 1 || c.Asked() != 6 || l.Made() != 1 {
		t.Errorf("%v, %d calls, Asked %d, Made %d", got, calls.Load(), c.Asked(), l.Made())
	}
}
