package crc24_test

import (
	"bytes"
	"math/rand/v2"
	"testing"

	"curfew/crc24"
)

// divided computes the checksum by other means than the package: as the remainder of a long division of the bits, of which the first 24 are combined with the initial value.
func divided(b []byte) uint32 {
	bits := make([]byte, 8*len(b)+24)
	for i := range 8 * len(b) {
		bits[i] = b[i/8] >> (7 - i%8) & 1
	}
	combine := func(at int, value uint32, size int) {
		for i := range size {
			bits[at+i] ^= byte(value >> (size - 1 - i) & 1)
		}
	}
	combine(0, 0xb704ce, 24)
	for i := range 8 * len(b) {
		if bits[i] == 1 {
			combine(i, 0x1864cfb, 25)
		}
	}
	var rest uint32
	for _, bit := range bits[8*len(b):] {
		rest = rest<<1 | uint32(bit)
	}
	return rest
}

// samples returns data of many lengths, the same in each run.
func samples() [][]byte {
	random := rand.New(rand.NewPCG(2, 4))
	l := [][]byte{nil, {}, {0}, {1}, {0x80}, {0xff}, {0, 0, 0}, {0xb7, 0x04, 0xce}, []byte("123456789"), bytes.Repeat([]byte{0xff}, 100)}
	for n := range 40 {
		b := make([]byte, n*n/3)
		for i := range b {
			b[i] = byte(random.Uint32())
		}
		l = append(l, b)
	}
	return l
}

// P2.1, and the chapter's example.
func TestSumOfExamples(t *testing.T) {
	if s := crc24.Sum([]byte("123456789")); s != 0x21cf02 {
		t.Errorf("%06x", s)
	}
	if crc24.Sum() != 0xb704ce || crc24.Sum(nil) != 0xb704ce || crc24.Sum(nil, []byte{}) != 0xb704ce {
		t.Error("the checksum of nothing")
	}
	// The register is all zero behind these bytes, and is then moved by the last one alone.
	if s := crc24.Sum([]byte{0xb7, 0x04, 0xce}); s != 0 {
		t.Errorf("%06x", s)
	}
	if s := crc24.Sum([]byte{0xb7, 0x04, 0xce, 1}); s != 0x864cfb {
		t.Errorf("%06x", s)
	}
}

// P2.1
func TestSumIsTheRemainder(t *testing.T) {
	for _, b := range samples() {
		if got, want := crc24.Sum(b), divided(b); got != want {
			t.Errorf("%x: %06x, want %06x", b, got, want)
		}
	}
	for c := range 256 {
		if got, want := crc24.Sum([]byte{byte(c)}), divided([]byte{byte(c)}); got != want {
			t.Errorf("%02x: %06x, want %06x", c, got, want)
		}
	}
}

// P2.1: parts count as what they make together, and On continues behind each of them.
func TestSumOfParts(t *testing.T) {
	for _, b := range samples() {
		want := divided(b)
		single := make([][]byte, 0, len(b))
		for i := range b {
			single = append(single, b[i:i+1])
			if got := crc24.Sum(b[:i], nil, b[i:]); got != want {
				t.Errorf("%x at %d: Sum %06x, want %06x", b, i, got, want)
			}
			if got := crc24.On(crc24.Sum(b[:i]), b[i:]); got != want {
				t.Errorf("%x at %d: On %06x, want %06x", b, i, got, want)
			}
		}
		if got := crc24.Sum(single...); got != want {
			t.Errorf("%x byte by byte: %06x, want %06x", b, got, want)
		}
	}
}

// P2.1: only the lowest 24 bits of a sum are continued.
func TestOnHas24Bits(t *testing.T) {
	for _, sum := range []uint32{0, 1, 0x800000, 0xffffff, 0xb704ce, 0x1000000, 0x80000000, 0xff000000, 0xffffffff, 0x12345678} {
		low := sum & 0xffffff
		if got := crc24.On(sum, nil); got != low {
			t.Errorf("On(%08x, nil): %08x", sum, got)
		}
		for _, s := range []string{"\x00", "\xff", "abc"} {
			if got := crc24.On(sum, []byte(s)); got != crc24.On(low, []byte(s)) || got > 0xffffff {
				t.Errorf("On(%08x, %q): %08x", sum, s, got)
			}
		}
	}
	if got := crc24.On(0xb704ce, []byte("123456789")); got != 0x21cf02 {
		t.Errorf("%06x", got)
	}
}

// P2.1
func TestFits(t *testing.T) {
	for _, b := range samples() {
		sum := divided(b)
		if !crc24.Fits(b, sum) {
			t.Errorf("%x: %06x does not fit", b, sum)
		}
		for i := range 32 {
			if crc24.Fits(b, sum^1<<i) {
				t.Errorf("%x: %08x fits", b, sum^1<<i)
			}
		}
	}
	if crc24.Fits(nil, 0) || crc24.Fits([]byte("123456789"), 0xb704ce) {
		t.Error("a wrong sum fits")
	}
}

// P2.2
func TestSealAppendsTheSum(t *testing.T) {
	if crc24.Size != 3 {
		t.Error(crc24.Size)
	}
	if got := crc24.Seal([]byte("123456789")); string(got) != "123456789\x21\xcf\x02" {
		t.Errorf("%x", got)
	}
	if got := crc24.Seal(nil); string(got) != "\xb7\x04\xce" {
		t.Errorf("%x", got)
	}
	for _, b := range samples() {
		sum := divided(b)
		want := append(bytes.Clone(b), byte(sum>>16), byte(sum>>8), byte(sum))
		if got := crc24.Seal(b); !bytes.Equal(got, want) {
			t.Errorf("%x: %x", b, got)
		}
	}
}

// P2.2: Open undoes Seal (P2.3), and rejects what is too short or has another sum.
func TestOpen(t *testing.T) {
	for _, b := range samples() {
		if got, ok := crc24.Open(crc24.Seal(b)); !ok || !bytes.Equal(got, b) {
			t.Errorf("%x: %x, %v", b, got, ok)
		}
	}
	if got, ok := crc24.Open([]byte("123456789\x21\xcf\x02")); !ok || string(got) != "123456789" {
		t.Errorf("%q, %v", got, ok)
	}
	if got, ok := crc24.Open([]byte("\xb7\x04\xce")); !ok || len(got) != 0 {
		t.Errorf("%q, %v", got, ok)
	}
	for _, s := range []string{"", "\xb7", "\xb7\x04", "\x00\x00\x00", "\xce\x04\xb7", "123456789\x02\xcf\x21", "123456789", "123456788\x21\xcf\x02", "123456789\x21\xcf\x02\x01"} {
		if got, ok := crc24.Open([]byte(s)); ok || got != nil {
			t.Errorf("%x: %x, %v", s, got, ok)
		}
	}
	if got, ok := crc24.Open(nil); ok || got != nil {
		t.Errorf("nil: %x, %v", got, ok)
	}
}

// P2.2 and general rule 7: what is beyond the length takes no part.
func TestOpenStaysWithinItsBytes(t *testing.T) {
	b := []byte("\xb7\x04\xce")
	if got, ok := crc24.Open(b[:2]); ok || got != nil {
		t.Errorf("%x, %v", got, ok)
	}
}

// P2.2: results are apart from arguments, which are left as they are with what is behind them.
func TestResultsAreInNewMemory(t *testing.T) {
	back := []byte("abcdefgh")
	sealed := crc24.Seal(back[:3])
	crc24.Sum(back[:2], back[2:5])
	crc24.On(1, back[:3])
	crc24.Fits(back[:3], 1)
	if string(back) != "abcdefgh" {
		t.Errorf("%q", back)
	}
	sealed[0] = 'x'
	if string(back) != "abcdefgh" {
		t.Errorf("%q", back)
	}
	sealed = crc24.Seal(back)
	before := bytes.Clone(sealed)
	got, ok := crc24.Open(sealed)
	if !ok || !bytes.Equal(sealed, before) {
		t.Fatalf("%x, %v", sealed, ok)
	}
	got[0] = 'x'
	_ = append(got, "spoilt"...)
	if !bytes.Equal(sealed, before) {
		t.Errorf("%x", sealed)
	}
}

// flipped returns b with the bits of pattern (size of them) turned from bit at on, most significant bit of each byte first.
func flipped(b []byte, at int, pattern uint32, size int) []byte {
	b = bytes.Clone(b)
	for i := range size {
		if pattern>>(size-1-i)&1 == 1 {
			b[(at+i)/8] ^= 0x80 >> ((at + i) % 8)
		}
	}
	return b
}

// wantRejected turns every pattern at every place of sealed data.
func wantRejected(t *testing.T, sealed []byte, size int, patterns func(yield func(uint32) bool)) {
	t.Helper()
	for at := range 8*len(sealed) - size + 1 {
		for pattern := range patterns {
			if got, ok := crc24.Open(flipped(sealed, at, pattern, size)); ok || got != nil {
				t.Fatalf("%x with %x turned from bit %d on is accepted", sealed, pattern, at)
			}
		}
	}
}

// P2.3: changes within 24 consecutive bits, in the data, in the checksum and across them.
func TestChangesWithin24BitsAreRejected(t *testing.T) {
	for _, s := range []string{"", "a", "123456789", "\x00\x00\x00\x00\x00", "\xff\xff\xff\xff\xff\xff\xff"} {
		sealed := crc24.Seal([]byte(s))
		wantRejected(t, sealed, 10, func(yield func(uint32) bool) {
			for p := uint32(1); p < 1<<10 && yield(p); p++ {
			}
		})
		random := rand.New(rand.NewPCG(6, 8))
		wantRejected(t, sealed, 24, func(yield func(uint32) bool) {
			if !yield(1<<23|1) || !yield(1<<24-1) || !yield(0x864cfb) {
				return
			}
			for range 2000 {
				if !yield(1 + random.Uint32N(1<<24-1)) {
					return
				}
			}
		})
	}
}

// P2.3: a change of 25 bits can go unnoticed, namely by the polynomial itself, so that the 24 of the promise are the most.
func TestThePolynomialIsAccepted(t *testing.T) {
	sealed := crc24.Seal([]byte("123456789"))
	for at := range 8*len(sealed) - 24 {
		if _, ok := crc24.Open(flipped(sealed, at, 0x1864cfb, 25)); !ok {
			t.Errorf("from bit %d on", at)
		}
	}
}

// P2.2 and P2.3 for arbitrary data.
func FuzzSeal(f *testing.F) {
	for _, b := range samples() {
		f.Add(b, uint32(1), uint(3))
	}
	f.Fuzz(func(t *testing.T, b []byte, pattern uint32, at uint) {
		sealed := crc24.Seal(b)
		if got, ok := crc24.Open(sealed); !ok || !bytes.Equal(got, b) {
			t.Errorf("%x: %x, %v", b, got, ok)
		}
		place := int(at % uint(8*len(sealed)-23))
		if got, ok := crc24.Open(flipped(sealed, place, pattern, 24)); pattern&0xffffff != 0 && (ok || got != nil) {
			t.Errorf("%x with %06x turned from bit %d on is accepted", sealed, pattern, place)
		}
	})
}
