package frame_test

import (
	"bytes"
	"math/rand/v2"
	"slices"
	"testing"

	"curfew/api"
	"curfew/crc24"
	"curfew/frame"
)

// framed lays out a frame from the chapter's text, also those that Wrap refuses.
func framed(kind byte, size int, body []byte) []byte {
	b := []byte{0x66, kind, byte(size / 65536), byte(size / 256 % 256), byte(size % 256)}
	b = append(b, body...)
	sum := crc24.Sum(b)
	return append(b, byte(sum/65536), byte(sum/256%256), byte(sum%256))
}

// wrapped returns a frame that must exist.
func wrapped(t testing.TB, kind byte, body []byte) []byte {
	t.Helper()
	b, e := frame.Wrap(kind, body)
	if e != api.OK {
		t.Fatalf("Wrap(%d, %d bytes): %d", kind, len(body), e)
	}
	return b
}

// filled returns n bytes, the same in each run.
func filled(n int, seed uint64) []byte {
	random := rand.New(rand.NewPCG(3, seed))
	b := make([]byte, n)
	for i := range b {
		b[i] = byte(random.Uint32())
	}
	return b
}

// sizes returns lengths of bodies around those at which the length's bytes change.
func sizes() []int {
	return []int{0, 1, 2, 7, 8, 255, 256, 257, 4096, 65279, 65280, 65535, api.MaxText}
}

// taken is what Take returns.
type taken struct {
	kind byte
	body []byte
	n    int
	e    api.Errno
}

func take(b []byte) taken {
	kind, body, n, e := frame.Take(b)
	return taken{kind, body, n, e}
}

func (x taken) same(y taken) bool {
	return x.kind == y.kind && bytes.Equal(x.body, y.body) && x.n == y.n && x.e == y.e
}

// expected takes a frame by other means than the package: it goes through b byte by byte and ends at the first one that shows the outcome.
func expected(b []byte) taken {
	size := 0
	for i := 0; ; i++ {
		switch {
		case i == len(b):
			return taken{e: api.ErrTorn}
		case i == 0 && b[0] != 0x66, i == 1 && b[1] == 0:
			return taken{e: api.ErrForm}
		case i >= 2 && i <= 4:
			size = size*256 + int(b[i])
		}
		if i == 4 && size > 65536 {
			return taken{e: api.ErrForm}
		}
		if i == size+7 && i > 4 {
			if !bytes.Equal(b[:i+1], framed(b[1], size, b[5:i-2])) {
				return taken{e: api.ErrSum}
			}
			return taken{b[1], b[5 : i-2], i + 1, api.OK}
		}
	}
}

func check(t *testing.T, b []byte) {
	t.Helper()
	if got, want := take(b), expected(b); !got.same(want) {
		t.Errorf("Take(%.40x, %d bytes) = %d, %.40x, %d, %d, want %d, %.40x, %d, %d", b, len(b), got.kind, got.body, got.n, got.e, want.kind, want.body, want.n, want.e)
	}
}

// P3.1, and the chapter's example.
func TestExamplesAreWrapped(t *testing.T) {
	for _, x := range []struct {
		kind byte
		body string
		want string
	}{
		{1, "a", "\x66\x01\x00\x00\x01a\xd8\x70\x1e"},
		{1, "", "\x66\x01\x00\x00\x00\x33\xe8\xc7"},
		{255, "\x00\xff", "\x66\xff\x00\x00\x02\x00\xff\x16\x8b\xf5"},
	} {
		if got := wrapped(t, x.kind, []byte(x.body)); string(got) != x.want {
			t.Errorf("Wrap(%d, %q) = %x, want %x", x.kind, x.body, got, x.want)
		}
	}
}

// P3.1
func TestFramesAreLaidOut(t *testing.T) {
	if frame.Over != 8 {
		t.Errorf("Over is %d", frame.Over)
	}
	for i, n := range sizes() {
		body := filled(n, uint64(i))
		got := wrapped(t, byte(i+1), body)
		if !bytes.Equal(got, framed(byte(i+1), n, body)) || len(got) != n+frame.Over {
			t.Errorf("a body of %d bytes: %d bytes, %.20x", n, len(got), got)
		}
	}
	for kind := 1; kind <= 255; kind++ {
		if got := wrapped(t, byte(kind), []byte("xyz")); !bytes.Equal(got, framed(byte(kind), 3, []byte("xyz"))) {
			t.Errorf("kind %d: %x", kind, got)
		}
	}
}

// P3.1: what Wrap refuses, in the order of its errors.
func TestWrapRefuses(t *testing.T) {
	long := make([]byte, api.MaxText+1)
	for _, x := range []struct {
		kind byte
		body []byte
		want api.Errno
	}{
		{0, nil, api.ErrArg},
		{0, []byte("a"), api.ErrArg},
		{0, long[1:], api.ErrArg},
		{0, long, api.ErrArg},
		{1, long, api.ErrLong},
		{255, append(long, long...), api.ErrLong},
		{1, long[1:], api.OK},
	} {
		b, e := frame.Wrap(x.kind, x.body)
		if e != x.want || e != api.OK && b != nil {
			t.Errorf("Wrap(%d, %d bytes): %d, %d bytes", x.kind, len(x.body), e, len(b))
		}
	}
}

// P3.1: neither the body nor what follows it in memory is changed, and the frame is in new memory.
func TestWrapLeavesTheBody(t *testing.T) {
	all := []byte("bodyrest and more")
	b := wrapped(t, 1, all[:4])
	if string(all) != "bodyrest and more" {
		t.Errorf("the body's memory became %q", all)
	}
	all[0] = 'x'
	if string(b[5:9]) != "body" {
		t.Errorf("the frame has the body's memory: %q", b)
	}
	clear(b)
	if string(all) != "xodyrest and more" {
		t.Errorf("the body's memory became %q", all)
	}
}

// P3.2: each error where its byte is reached, be b at its end there or not.
func TestTakeRefuses(t *testing.T) {
	frame1 := string(framed(1, 1, []byte("a")))
	for _, x := range []struct {
		b    string
		want api.Errno
	}{
		{"", api.ErrTorn},
		{"\x66", api.ErrTorn},
		{"\x65", api.ErrForm},
		{"\x67", api.ErrForm},
		{"\x42", api.ErrForm},
		{"\x00", api.ErrForm},
		{"\x66\x00", api.ErrForm},
		{"\x66\x01", api.ErrTorn},
		{"\x66\xff", api.ErrTorn},
		{"\x65\x01", api.ErrForm},
		{"\x65\x01\x00", api.ErrForm},
		{"\x65\x01\x00\x00\x01", api.ErrForm},
		{"\x66\x00\x00", api.ErrForm},
		{"\x66\x00\x00\x00\x01", api.ErrForm},
		{"\x66\x01\x01", api.ErrTorn},
		{"\x66\x01\x01\x00", api.ErrTorn},
		{"\x66\x01\x01\x00\x00", api.ErrTorn},
		{"\x66\x01\x01\x00\x01", api.ErrForm},
		{"\x66\x01\x01\x01\x00", api.ErrForm},
		{"\x66\x01\x02\x00\x00", api.ErrForm},
		{"\x66\x01\xff\xff\xff", api.ErrForm},
		{"\x66\x01\x80\x00\x00", api.ErrForm},
		// What follows does not excuse an error of the first bytes.
		{"\x67" + frame1[1:], api.ErrForm},
		{string(framed(0, 1, []byte("a"))), api.ErrForm},
		{string(framed(0, 1, []byte("a"))) + frame1, api.ErrForm},
		{string(framed(1, api.MaxText+1, make([]byte, api.MaxText+1))), api.ErrForm},
		{frame1[:8], api.ErrTorn},
		{frame1[:8] + "\x00", api.ErrSum},
		{frame1[:8] + "\x00\x00", api.ErrSum},
		// The frame would fit with a shorter or a longer body.
		{string(framed(1, 0, []byte("a"))), api.ErrSum},
		{string(framed(1, 2, []byte("a"))), api.ErrTorn},
		{"x" + frame1, api.ErrForm},
	} {
		if got := take([]byte(x.b)); !got.same(taken{e: x.want}) || got.body != nil {
			t.Errorf("Take(%.20x, %d bytes) = %d, %x, %d, %d, want %d", x.b, len(x.b), got.kind, got.body, got.n, got.e, x.want)
		}
	}
	if got := take(nil); got.e != api.ErrTorn {
		t.Errorf("Take(nil): %d", got.e)
	}
}

// P3.2: the checksum is that of the head and the body, and all its bits count.
func TestTakeSeesEachBit(t *testing.T) {
	b := framed(3, 4, []byte("body"))
	for bit := range 8 * len(b) {
		b[bit/8] ^= 1 << (bit % 8)
		want := api.ErrSum
		switch {
		case bit < 8, bit >= 16 && bit < 24:
			want = api.ErrForm
		case bit >= 24 && bit < 40 && (b[3] > 0 || b[4] > 4):
			want = api.ErrTorn
		}
		if got := take(b); !got.same(taken{e: want}) {
			t.Errorf("bit %d changed: %d, %x, %d, %d, want %d", bit, got.kind, got.body, got.n, got.e, want)
		}
		b[bit/8] ^= 1 << (bit % 8)
	}
}

// P3.2, P3.4: Take undoes Wrap, whatever follows.
func TestTakeUndoesWrap(t *testing.T) {
	for i, n := range sizes() {
		kind, body := byte(255-i), filled(n, uint64(i))
		b := wrapped(t, kind, body)
		for _, rest := range [][]byte{nil, {0}, {0x66}, []byte("rest"), b, filled(100, 9)} {
			got := take(slices.Concat(b, rest))
			if !got.same(taken{kind, body, n + 8, api.OK}) {
				t.Errorf("a body of %d bytes, followed by %.20x: %d, %.20x, %d, %d", n, rest, got.kind, got.body, got.n, got.e)
			}
		}
	}
	for kind := 1; kind <= 255; kind++ {
		if got := take(wrapped(t, byte(kind), nil)); !got.same(taken{byte(kind), nil, 8, api.OK}) {
			t.Errorf("kind %d: %d, %x, %d, %d", kind, got.kind, got.body, got.n, got.e)
		}
	}
}

// P3.4
func TestTruncatedFramesAreTorn(t *testing.T) {
	for i, n := range sizes() {
		b := wrapped(t, byte(i+1), filled(n, uint64(i)))
		for cut := 0; cut < len(b); cut += 1 + cut/300 {
			if got := take(b[:cut]); !got.same(taken{e: api.ErrTorn}) {
				t.Errorf("%d of %d bytes: %d, %.20x, %d, %d", cut, len(b), got.kind, got.body, got.n, got.e)
			}
		}
		// The memory behind the end of b has the missing byte, but is not part of b.
		if got := take(b[:len(b)-1]); got.e != api.ErrTorn {
			t.Errorf("%d bytes without the last one: %d", len(b), got.e)
		}
	}
}

// P3.2: the body is in new memory.
func TestTakeLeavesItsArgument(t *testing.T) {
	b := append(framed(1, 4, []byte("body")), "rest"...)
	was := string(b)
	got := take(b)
	clear(b)
	if string(got.body) != "body" {
		t.Errorf("the body has the memory of the argument: %q", got.body)
	}
	copy(b, was)
	clear(got.body)
	_ = append(got.body, "more than there was"...)
	if string(b) != was {
		t.Errorf("the argument became %q", b)
	}
}

// P3.2: whatever the bytes are.
func TestTakeOfChangedFrames(t *testing.T) {
	random := rand.New(rand.NewPCG(3, 2))
	for range 20000 {
		b := framed(byte(random.IntN(4)), random.IntN(10), filled(random.IntN(10), random.Uint64()))
		switch random.IntN(4) {
		case 0:
			b[random.IntN(len(b))] ^= byte(random.IntN(256))
		case 1:
			b = b[:random.IntN(len(b))]
		case 2:
			b = append(b, byte(random.IntN(256)))
		}
		check(t, b)
	}
	for range 20000 {
		check(t, append([]byte{0x66, 1}, filled(random.IntN(6), random.Uint64())...))
		check(t, filled(random.IntN(12), random.Uint64()))
	}
}

// P3.4: changes within 24 consecutive bits, all short ones and some of all lengths.
func TestBurstsAreDetected(t *testing.T) {
	random := rand.New(rand.NewPCG(3, 4))
	for _, body := range [][]byte{nil, []byte("a"), []byte("some body"), filled(300, 1)} {
		b := wrapped(t, 2, body)
		changed := slices.Clone(b)
		hit := func(at int, pattern uint32) {
			for i := range 24 {
				if pattern>>i&1 == 1 && at+i < 8*len(b) {
					changed[(at+i)/8] ^= 0x80 >> ((at + i) % 8)
				}
			}
			if _, _, ok := frame.Whole(changed); ok && !bytes.Equal(changed, b) {
				t.Fatalf("bits from %d on changed by %06x: still a frame", at, pattern)
			}
			copy(changed, b)
		}
		for at := range 8 * len(b) {
			for short := uint32(1); short < 64; short++ {
				hit(at, short)
			}
			for range 40 {
				hit(at, random.Uint32()&0xffffff|1)
			}
			hit(at, 0xffffff)
			hit(at, 0x800001)
			// The polynomial itself, without the highest or the lowest of its 25 bits.
			hit(at, 0x1864cfb>>1)
			hit(at, 0x1864cfb&0xffffff)
		}
	}
}

// row is the kinds and bodies of consecutive frames.
type row []taken

func (r row) bytes() []byte {
	var b []byte
	for _, x := range r {
		b = append(b, framed(x.kind, len(x.body), x.body)...)
	}
	return b
}

func rows() []row {
	many := make(row, 50)
	for i := range many {
		many[i] = taken{kind: byte(i + 1), body: filled(i*i, uint64(i))}
	}
	return []row{
		nil,
		{{kind: 1}},
		{{kind: 1, body: []byte("a")}, {kind: 1, body: []byte("a")}},
		{{kind: 255}, {kind: 2, body: []byte("bb")}, {kind: 3, body: []byte("\x66\x01\x00")}},
		{{kind: 9, body: filled(api.MaxText, 1)}, {kind: 8, body: filled(api.MaxText, 2)}},
		many,
	}
}

func enumerated(b []byte) row {
	var r row
	for kind, body := range frame.Each(b) {
		r = append(r, taken{kind: kind, body: body})
	}
	return r
}

func (r row) same(s row) bool { return slices.EqualFunc(r, s, taken.same) }

// P3.3: frames are enumerated in order up to where Take returns an error, and End returns the place and the error.
func TestFramesAreEnumerated(t *testing.T) {
	ends := []struct {
		rest string
		want api.Errno
	}{
		{"", api.OK},
		{"\x66", api.ErrTorn},
		{"\x66\x01\x00\x00\x01a", api.ErrTorn},
		{"x", api.ErrForm},
		{"\x66\x00", api.ErrForm},
		{"\x66\x01\x01\x00\x01", api.ErrForm},
		{"\x66\x01\x00\x00\x00\x00\x00\x00", api.ErrSum},
		// What is behind the first error does not count.
		{"x" + string(framed(1, 0, nil)), api.ErrForm},
		{"\x66\x01\x00\x00\x00\x00\x00\x00" + string(framed(1, 0, nil)), api.ErrSum},
	}
	for i, r := range rows() {
		whole := r.bytes()
		for _, x := range ends {
			b := append(slices.Clone(whole), x.rest...)
			if got := enumerated(b); !got.same(r) {
				t.Errorf("row %d, then %.20x: %d frames, want %d", i, x.rest, len(got), len(r))
			}
			if at, e := frame.End(b); at != len(whole) || e != x.want {
				t.Errorf("row %d, then %.20x: End %d, %d, want %d, %d", i, x.rest, at, e, len(whole), x.want)
			}
		}
	}
	if at, e := frame.End(nil); at != 0 || e != api.OK || len(enumerated(nil)) != 0 {
		t.Errorf("no bytes: End %d, %d", at, e)
	}
}

// P3.3: if a frame among others is changed, those before it are enumerated.
func TestEnumerationStopsAtAChange(t *testing.T) {
	r := rows()[3]
	whole := r.bytes()
	for i := range whole {
		b := slices.Clone(whole)
		b[i] ^= 0x40
		before := 0
		for before+len(r[0].body)+8 <= i {
			before += len(r[0].body) + 8
			r = r[1:]
		}
		done := rows()[3][:3-len(r)]
		if got := enumerated(b); !got.same(done) {
			t.Errorf("byte %d changed: %d frames, want %d", i, len(got), len(done))
		}
		if at, e := frame.End(b); at != before || e != expected(b[before:]).e || e == api.OK {
			t.Errorf("byte %d changed: End %d, %d, want %d, %d", i, at, e, before, expected(b[before:]).e)
		}
		r = rows()[3]
	}
}

// P3.3: an enumeration can be left, begun again, and done twice at a time.
func TestEnumerationsAreIndependent(t *testing.T) {
	r := rows()[5]
	each := frame.Each(r.bytes())
	for stop := range r {
		n := 0
		for kind := range each {
			if kind != r[n].kind {
				t.Fatalf("frame %d has the kind %d", n, kind)
			}
			if n++; n > stop {
				break
			}
		}
		if n != stop+1 {
			t.Errorf("%d frames before the enumeration is left after %d", n, stop+1)
		}
	}
	i := 0
	for range each {
		j := 0
		for kind, body := range each {
			if !(taken{kind: kind, body: body}).same(r[j]) {
				t.Fatalf("frame %d within frame %d: %d, %x", j, i, kind, body)
			}
			j++
		}
		i++
	}
	if i != len(r) {
		t.Errorf("%d frames", i)
	}
}

// P3.3: neither changes of the bytes that were given nor of a body that was enumerated show in an enumeration.
func TestEnumerationsAreApart(t *testing.T) {
	r := rows()[3]
	b := r.bytes()
	was := slices.Clone(b)
	each := frame.Each(b)
	clear(b)
	for range 2 {
		var got row
		for kind, body := range each {
			got = append(got, taken{kind: kind, body: slices.Clone(body)})
			clear(body)
			_ = append(body, "more than there was"...)
		}
		if !got.same(r) {
			t.Errorf("%d frames, not those that were there when Each was called", len(got))
		}
	}
	copy(b, was)
	for _, body := range frame.Each(b) {
		clear(body)
	}
	if _, body, _ := frame.Whole(b[:8]); len(body) > 0 || !bytes.Equal(b, was) {
		t.Error("the bytes that were given are changed")
	}
}

// P3.3
func TestWholeIsOneFrame(t *testing.T) {
	for i, n := range sizes() {
		kind, body := byte(i+1), filled(n, uint64(i))
		b := wrapped(t, kind, body)
		k, got, ok := frame.Whole(b)
		if k != kind || !bytes.Equal(got, body) || !ok {
			t.Errorf("a body of %d bytes: %d, %.20x, %t", n, k, got, ok)
		}
		for _, wrong := range [][]byte{b[:len(b)-1], append(slices.Clone(b), 0), slices.Concat(b, b), b[1:], append([]byte{0x66}, b...), append(b[:len(b)-1:len(b)-1], b[len(b)-1]^1)} {
			if k, got, ok := frame.Whole(wrong); k != 0 || got != nil || ok {
				t.Errorf("%d bytes instead of %d: %d, %.20x, %t", len(wrong), len(b), k, got, ok)
			}
		}
	}
	if k, got, ok := frame.Whole(nil); k != 0 || got != nil || ok {
		t.Errorf("no bytes: %d, %x, %t", k, got, ok)
	}
	b := framed(7, 4, []byte("body"))
	_, body, _ := frame.Whole(b)
	clear(b)
	if string(body) != "body" {
		t.Errorf("the body has the memory of the argument: %q", body)
	}
}

// All promises, for bytes of any form: go test ./frame -fuzz FuzzTake
func FuzzTake(f *testing.F) {
	for _, r := range rows()[:4] {
		f.Add(r.bytes())
		f.Add(append(r.bytes(), 0x66, 1, 0))
	}
	f.Fuzz(func(t *testing.T, b []byte) {
		check(t, b)
		end := 0
		for kind, body := range frame.Each(b) {
			one := wrapped(t, kind, body)
			if !bytes.HasPrefix(b[end:], one) {
				t.Fatalf("%x is not at %d", one, end)
			}
			end += len(one)
		}
		want := expected(b[end:]).e
		if end == len(b) {
			want = api.OK
		}
		if at, e := frame.End(b); at != end || e != want {
			t.Errorf("End %d, %d, want %d, %d", at, e, end, want)
		}
		one := expected(b)
		if _, _, ok := frame.Whole(b); ok != (one.e == api.OK && one.n == len(b)) {
			t.Errorf("Whole: %t", ok)
		}
	})
}
