package dice_test

import (
	"bytes"
	"math"
	"math/big"
	"math/rand/v2"
	"slices"
	"testing"

	"curfew/api"
	"curfew/dice"
)

// model makes the choices by the chapter's text, with numbers that have no end.
type model struct{ rest []byte }

// number consumes the next k bytes.
func (m *model) number(k int) *big.Int {
	b := make([]byte, k)
	m.rest = m.rest[copy(b, m.rest):]
	slices.Reverse(b)
	return new(big.Int).SetBytes(b)
}

// below is defined for n from 0 to 2^64.
func (m *model) below(n *big.Int) *big.Int {
	if n.Cmp(big.NewInt(2)) < 0 {
		return new(big.Int)
	}
	k := 0
	for power := big.NewInt(1); power.Cmp(n) < 0; k++ {
		power.Mul(power, big.NewInt(256))
	}
	return new(big.Int).Mod(m.number(k), n)
}

func (m *model) Below(n uint64) uint64 { return m.below(new(big.Int).SetUint64(n)).Uint64() }

func (m *model) Between(low, high int64) int64 {
	if high < low {
		return low
	}
	n := new(big.Int).Sub(big.NewInt(high), big.NewInt(low))
	v := m.below(n.Add(n, big.NewInt(1)))
	return v.Add(v, big.NewInt(low)).Int64()
}

func (m *model) Order(n int) []int {
	var l []int
	for i := range n {
		l = append(l, i)
	}
	for i := n - 1; i >= 1; i-- {
		j := m.Below(uint64(i) + 1)
		l[i], l[j] = l[j], l[i]
	}
	return l
}

// wantLeft checks how many bytes dice have left.
func wantLeft(t *testing.T, what string, d *dice.Dice, want int) {
	t.Helper()
	if got := d.Left(); got != want {
		t.Errorf("%s: Left %d, want %d", what, got, want)
	}
}

// some returns n bytes, none of which is 0 or like its neighbour.
func some(n int) []byte {
	b := make([]byte, n)
	for i := range b {
		b[i] = byte(255 - 7*i%250)
	}
	return b
}

// edges returns the numbers around each one at which the number of consumed bytes changes.
func edges() []uint64 {
	l := []uint64{2, 3, 4, 10, 127, 128, 129, 1000, 1 << 63, math.MaxInt64, math.MaxUint64 - 1, math.MaxUint64}
	for i := 1; i < 8; i++ {
		n := uint64(1) << (8 * i)
		l = append(l, n-1, n, n+1, n+n/3)
	}
	return l
}

// P6.1: the chapter's example.
func TestExample(t *testing.T) {
	d := dice.New([]byte{5, 1, 2})
	if n := d.Below(4); n != 1 {
		t.Errorf("Below(4): %d", n)
	}
	wantLeft(t, "Below(4)", d, 2)
	if n := d.Below(1000); n != 513 {
		t.Errorf("Below(1000): %d", n)
	}
	wantLeft(t, "Below(1000)", d, 0)
}

// P6.1
func TestNewCopiesItsBytes(t *testing.T) {
	b := []byte{1, 2, 3, 4}
	d := dice.New(b[:3])
	wantLeft(t, "New", d, 3)
	copy(b, []byte{9, 9, 9})
	for i, want := range []uint64{1, 2, 3, 0} {
		if n := d.Below(256); n != want {
			t.Errorf("byte %d: %d, want %d", i, n, want)
		}
	}
	b = []byte{5, 6, 7}
	d = dice.New(b)
	d.Order(3)
	if d.Below(9); !bytes.Equal(b, []byte{5, 6, 7}) {
		t.Errorf("the argument is %d", b)
	}
}

// P6.1: where nothing is to choose, no byte is consumed.
func TestBelowWithoutChoice(t *testing.T) {
	d := dice.New([]byte{7})
	for _, n := range []uint64{0, 1} {
		if got := d.Below(n); got != 0 {
			t.Errorf("Below(%d): %d", n, got)
		}
		wantLeft(t, "no choice", d, 1)
	}
	if n := d.Below(2); n != 1 {
		t.Errorf("Below(2): %d", n)
	}
	wantLeft(t, "a choice", d, 0)
}

// P6.1: how many bytes are consumed.
func TestBelowConsumesFewBytes(t *testing.T) {
	for _, x := range []struct {
		n uint64
		k int
	}{
		{2, 1}, {255, 1}, {256, 1}, {257, 2}, {1 << 16, 2}, {1<<16 + 1, 3}, {1 << 24, 3}, {1<<24 + 1, 4}, {1 << 32, 4}, {1<<32 + 1, 5},
		{1 << 40, 5}, {1<<40 + 1, 6}, {1 << 48, 6}, {1<<48 + 1, 7}, {1 << 56, 7}, {1<<56 + 1, 8}, {1 << 63, 8}, {math.MaxUint64, 8},
	} {
		d := dice.New(some(20))
		d.Below(x.n)
		wantLeft(t, "Below", d, 20-x.k)
		d.Chance(1, x.n)
		wantLeft(t, "Chance", d, 20-2*x.k)
	}
}

// P6.1: numbers whose results follow from the text by hand.
func TestBelowByHand(t *testing.T) {
	b := []byte{0x01, 0x02, 0x03, 0x04, 0x05, 0x06, 0x07, 0x08, 0xff}
	for _, x := range []struct{ n, want uint64 }{
		{2, 1}, {256, 1}, {257, 0x0201 % 257}, {1 << 16, 0x0201}, {1<<16 + 1, 0x030201 % (1<<16 + 1)}, {1 << 24, 0x030201},
		{1 << 32, 0x04030201}, {1 << 56, 0x07060504030201}, {math.MaxUint64, 0x0807060504030201}, {1 << 63, 0x0807060504030201},
	} {
		if n := dice.New(b).Below(x.n); n != x.want {
			t.Errorf("Below(%d): %d, want %d", x.n, n, x.want)
		}
	}
	full := bytes.Repeat([]byte{0xff}, 8)
	for n, want := range map[uint64]uint64{3: 0, 256: 255, 1000: 65535 % 1000, math.MaxUint64: 0, math.MaxUint64 - 1: 1, 1 << 63: 1<<63 - 1} {
		if got := dice.New(full).Below(n); got != want {
			t.Errorf("Below(%d) of the greatest bytes: %d, want %d", n, got, want)
		}
	}
}

// P6.1: around each number at which more bytes are consumed, and with each number of bytes missing.
func TestBelowOfFewBytes(t *testing.T) {
	for _, n := range edges() {
		for size := range 12 {
			b := some(size)
			d, m := dice.New(b), &model{b}
			for range 3 {
				if got, want := d.Below(n), m.Below(n); got != want {
					t.Errorf("Below(%d) of %d bytes: %d, want %d", n, size, got, want)
				}
				wantLeft(t, "Below", d, len(m.rest))
			}
		}
	}
	d := dice.New([]byte{9})
	if n := d.Below(1 << 24); n != 9 {
		t.Errorf("with two bytes missing: %d", n)
	}
	if n := d.Below(1 << 24); n != 0 {
		t.Errorf("with all bytes missing: %d", n)
	}
}

// P6.1
func TestBetween(t *testing.T) {
	for _, x := range []struct {
		low, high, want int64
		k               int
	}{
		{5, 4, 5, 0}, {5, math.MinInt64, 5, 0}, {math.MaxInt64, math.MinInt64, math.MaxInt64, 0}, {-5, -6, -5, 0}, {0, -1, 0, 0},
		{5, 5, 5, 0}, {0, 0, 0, 0}, {math.MinInt64, math.MinInt64, math.MinInt64, 0}, {math.MaxInt64, math.MaxInt64, math.MaxInt64, 0},
		{5, 6, 6, 1}, {-3, 2, -3 + 0x81%6, 1}, {-128, 127, -128 + 0x81, 1}, {-128, 128, -128 + 0x8281%257, 2},
		{math.MaxInt64 - 1, math.MaxInt64, math.MaxInt64, 1}, {math.MinInt64, math.MinInt64 + 1, math.MinInt64 + 1, 1},
		{0, math.MaxInt64, 0x0887868584838281, 8}, {math.MinInt64, -1, math.MinInt64 + 0x0887868584838281, 8},
		{math.MinInt64, math.MaxInt64, math.MinInt64 + 0x0887868584838281, 8},
		{math.MinInt64 + 1, math.MaxInt64, math.MinInt64 + 1 + 0x0887868584838281, 8},
	} {
		d := dice.New([]byte{0x81, 0x82, 0x83, 0x84, 0x85, 0x86, 0x87, 0x08, 0xff})
		if n := d.Between(x.low, x.high); n != x.want {
			t.Errorf("Between(%d, %d): %d, want %d", x.low, x.high, n, x.want)
		}
		wantLeft(t, "Between", d, 9-x.k)
	}
}

// P6.1: the whole range of int64, from its least number to its greatest.
func TestBetweenAllNumbers(t *testing.T) {
	for b, want := range map[string]int64{
		"":                                 math.MinInt64,
		"\x01":                             math.MinInt64 + 1,
		"\x00\x01":                         math.MinInt64 + 256,
		"\x00\x00\x00\x00\x00\x00\x00\x80": 0,
		"\xff\xff\xff\xff\xff\xff\xff\x7f": -1,
		"\xff\xff\xff\xff\xff\xff\xff\xff": math.MaxInt64,
		"\xfe\xff\xff\xff\xff\xff\xff\xff": math.MaxInt64 - 1,
	} {
		d := dice.New([]byte(b + "rest")[:len(b)])
		if n := d.Between(math.MinInt64, math.MaxInt64); n != want {
			t.Errorf("%x: %d, want %d", b, n, want)
		}
		wantLeft(t, "the whole range", d, 0)
	}
}

// P6.1
func TestChance(t *testing.T) {
	for _, x := range []struct {
		b        byte
		num, den uint64
		want     bool
		k        int
	}{
		{0, 0, 0, false, 0}, {9, 0, 1, false, 0}, {9, 1, 0, true, 0}, {9, 1, 1, true, 0}, {9, math.MaxUint64, 0, true, 0},
		{3, 0, 4, false, 1}, {3, 3, 4, false, 1}, {3, 4, 4, true, 1}, {2, 3, 4, true, 1}, {7, 3, 4, false, 1}, {0, 1, 4, true, 1}, {0, 0, 4, false, 1},
		{3, 5, 4, true, 1}, {255, math.MaxUint64, 256, true, 1}, {255, 255, 256, false, 1}, {254, 255, 256, true, 1},
	} {
		d := dice.New([]byte{x.b})
		if got := d.Chance(x.num, x.den); got != x.want {
			t.Errorf("Chance(%d, %d) of %d: %t", x.num, x.den, x.b, got)
		}
		wantLeft(t, "Chance", d, 1-x.k)
	}
	// The number is one of two bytes, and of all eight.
	if dice.New([]byte{0x01, 0x02}).Chance(513, 1000) || !dice.New([]byte{0x01, 0x02}).Chance(514, 1000) {
		t.Error("two bytes")
	}
	full := bytes.Repeat([]byte{0xff}, 7)
	if dice.New(full).Chance(1<<56-1, math.MaxUint64) || !dice.New(full).Chance(1<<56, math.MaxUint64) {
		t.Error("eight bytes")
	}
}

// P6.2: orders that follow from the text by hand.
func TestOrderByHand(t *testing.T) {
	for _, x := range []struct {
		b    string
		n    int
		want []int
		left int
	}{
		{"\x05", 1, []int{0}, 1},
		{"\x00\x07", 2, []int{1, 0}, 1},
		{"\x01\x07", 2, []int{0, 1}, 1},
		{"\x02\x01\x07", 3, []int{0, 1, 2}, 1},
		{"\x00\x00\x07", 3, []int{1, 2, 0}, 1},
		{"\x01\x00\x07", 3, []int{2, 0, 1}, 1},
		{"\x04\x01\x07", 3, []int{0, 2, 1}, 1},
		{"", 4, []int{1, 2, 3, 0}, 0},
		{"\x02", 4, []int{1, 3, 0, 2}, 0},
	} {
		d := dice.New([]byte(x.b))
		if l := d.Order(x.n); !slices.Equal(l, x.want) {
			t.Errorf("Order(%d) of %x: %d, want %d", x.n, x.b, l, x.want)
		}
		wantLeft(t, "Order", d, x.left)
	}
}

// P6.2: what has no order consumes no byte.
func TestOrderOfNone(t *testing.T) {
	d := dice.New(some(9))
	for _, n := range []int{0, -1, math.MinInt, api.MaxText + 1, math.MaxInt} {
		if l := d.Order(n); l != nil {
			t.Errorf("Order(%d) of %d numbers", n, len(l))
		}
		wantLeft(t, "Order", d, 9)
	}
}

// P6.2: also where one byte no longer suffices, and for as many numbers as there may be.
func TestOrderOfMany(t *testing.T) {
	for _, n := range []int{255, 256, 257, 258, 1000, api.MaxText - 1, api.MaxText} {
		for _, size := range []int{0, 10, 2*n - 3, 2 * n, 3 * n} {
			b := some(size)
			d, m := dice.New(b), &model{b}
			if !slices.Equal(d.Order(n), m.Order(n)) {
				t.Errorf("Order(%d) of %d bytes", n, size)
			}
			wantLeft(t, "Order", d, len(m.rest))
		}
	}
	// Two bytes for each of 256 numbers and more, and one for each of 2 to 256.
	d := dice.New(some(2000))
	d.Order(300)
	wantLeft(t, "Order(300)", d, 2000-2*44-255)
}

// P6.2: what becomes of an order changes no later choice.
func TestOrderIsApart(t *testing.T) {
	d, m := dice.New(some(9)), &model{some(9)}
	for range 4 {
		l := d.Order(4)
		if !slices.Equal(l, m.Order(4)) {
			t.Errorf("Order %d", l)
		}
		clear(l)
	}
}

// P6.2
func TestSplit(t *testing.T) {
	for _, x := range []struct{ n, got int }{{0, 0}, {1, 1}, {5, 5}, {8, 8}, {9, 9}, {10, 9}, {math.MaxInt, 9}, {-1, 0}, {math.MinInt, 0}} {
		b := some(10)
		d := dice.New(b)
		d.Below(256)
		s := d.Split(x.n)
		if s == nil {
			t.Fatalf("Split(%d) is nil", x.n)
		}
		wantLeft(t, "the new dice", s, x.got)
		wantLeft(t, "the old dice", d, 9-x.got)
		b = append(b, 0, 0)
		for i := range x.got + 2 {
			want := uint64(0)
			if i < x.got {
				want = uint64(b[1+i])
			}
			if n := s.Below(256); n != want {
				t.Errorf("Split(%d), byte %d: %d, want %d", x.n, i, n, want)
			}
		}
		for i := range 9 - x.got {
			if n := d.Below(256); n != uint64(b[1+x.got+i]) {
				t.Errorf("after Split(%d), byte %d: %d, want %d", x.n, i, n, b[1+x.got+i])
			}
		}
	}
}

// P6.2: dice that have no bytes are dice nevertheless, also those of a split.
func TestDiceWithoutBytes(t *testing.T) {
	d := dice.New(some(3))
	for _, d := range []*dice.Dice{dice.New(nil), dice.New([]byte{}), d.Split(0), d.Split(-1), d.Split(3).Split(0), d.Split(1), d} {
		wantLeft(t, "no bytes", d, 0)
		if d.Below(1000) != 0 || d.Between(-7, 9) != -7 || !d.Chance(1, 2) || d.Chance(0, 2) {
			t.Error("a missing byte is not 0")
		}
		if l := d.Order(3); !slices.Equal(l, []int{1, 2, 0}) {
			t.Errorf("Order %d", l)
		}
		if d.Split(1) == nil {
			t.Error("Split is nil")
		}
	}
}

// P6.1 and P6.2: nil dice, and plain ones, for which P6.3 holds too.
func TestDiceThatAreNotThere(t *testing.T) {
	for _, d := range []*dice.Dice{nil, {}, new(dice.Dice)} {
		for _, n := range append(edges(), 0, 1) {
			if d.Below(n) != 0 || !d.Chance(1, n) || d.Chance(0, n) || !d.Chance(math.MaxUint64, n) {
				t.Errorf("Below(%d) is %d", n, d.Below(n))
			}
		}
		for _, low := range []int64{0, 5, -5, math.MinInt64, math.MaxInt64} {
			for _, high := range []int64{0, 5, 9, -9, math.MinInt64, math.MaxInt64} {
				if n := d.Between(low, high); n != low {
					t.Errorf("Between(%d, %d): %d", low, high, n)
				}
			}
		}
		for _, n := range []int{1, 2, 3, 300, api.MaxText} {
			l := d.Order(n)
			if len(l) != n || l[0] != 0 || l[n-1] != n-1 || !slices.IsSorted(l) {
				t.Errorf("Order(%d): %d numbers, not ascending", n, len(l))
			}
		}
		for _, n := range []int{0, 1, -1, math.MinInt, math.MaxInt, api.MaxText + 1} {
			if n != 1 && d.Order(n) != nil {
				t.Errorf("Order(%d) is not nil", n)
			}
			if d.Split(n) != nil {
				t.Errorf("Split(%d) is not nil", n)
			}
		}
		wantLeft(t, "not there", d, 0)
	}
}

// check makes any choices from b, as choose says, and compares them with the model's (P6.1, P6.2) and with their bounds (P6.3).
func check(t *testing.T, b []byte, choose *rand.Rand) {
	t.Helper()
	d, again, m := dice.New(b), dice.New(b), &model{b}
	for range 40 {
		n := choose.Uint64() >> choose.IntN(65)
		low, high := int64(choose.Uint64())>>choose.IntN(64), int64(choose.Uint64())>>choose.IntN(64)
		size := 1 + choose.IntN(300)
		switch choose.IntN(6) {
		case 0, 1:
			got := d.Below(n)
			if got != again.Below(n) || got != m.Below(n) || n > 0 && got >= n {
				t.Fatalf("%x: Below(%d) is %d", b, n, got)
			}
		case 2:
			got := d.Between(low, high)
			if got != again.Between(low, high) || got != m.Between(low, high) || got < low || low <= high && got > high {
				t.Fatalf("%x: Between(%d, %d) is %d", b, low, high, got)
			}
		case 3:
			num := choose.Uint64() >> choose.IntN(65)
			if got := d.Chance(num, n); got != again.Chance(num, n) || got != (m.Below(n) < num) {
				t.Fatalf("%x: Chance(%d, %d) is %t", b, num, n, got)
			}
		case 4:
			got := d.Order(size)
			if !slices.Equal(got, again.Order(size)) || !slices.Equal(got, m.Order(size)) {
				t.Fatalf("%x: Order(%d) is %d", b, size, got)
			}
			slices.Sort(got)
			for i := range got {
				if got[i] != i || len(got) != size {
					t.Fatalf("%x: Order(%d) is no permutation", b, size)
				}
			}
		default:
			// What is left goes on with a piece of it.
			size = size/3 - 5
			d, again = d.Split(size), again.Split(size)
			m.rest = m.rest[:max(0, min(size, len(m.rest)))]
		}
		if d.Left() != len(m.rest) || again.Left() != len(m.rest) {
			t.Fatalf("%x: Left %d, want %d", b, d.Left(), len(m.rest))
		}
	}
}

// P6.1 to P6.3: any choices from any bytes.
func TestAnyChoices(t *testing.T) {
	random := rand.New(rand.NewPCG(6, 3))
	for range 3000 {
		b := make([]byte, random.IntN(1000))
		for i := range b {
			b[i] = byte(random.Uint32())
		}
		check(t, b, random)
	}
}

// P6.3: each number below, and each order, is chosen by some bytes.
func TestEveryChoiceIsPossible(t *testing.T) {
	var below [7]int
	orders := map[[4]int]int{}
	for b := range 256 {
		below[dice.New([]byte{byte(b)}).Below(7)]++
	}
	for b := range 4 * 3 * 2 {
		orders[[4]int(dice.New([]byte{byte(b % 4), byte(b / 4 % 3), byte(b / 12)}).Order(4))]++
	}
	if slices.Min(below[:]) != 36 || slices.Max(below[:]) != 37 || len(orders) != 24 {
		t.Errorf("%d, %d orders", below, len(orders))
	}
}

// P6.1 to P6.3 for arbitrary bytes.
func FuzzDice(f *testing.F) {
	f.Add([]byte{5, 1, 2}, uint64(1))
	f.Add([]byte{}, uint64(2))
	f.Add(some(300), uint64(3))
	f.Fuzz(func(t *testing.T, b []byte, seed uint64) { check(t, b, rand.New(rand.NewPCG(seed, 6))) })
}
