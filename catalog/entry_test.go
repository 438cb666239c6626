package catalog_test

import (
	"encoding/binary"
	"hash/crc32"
	"math"
	"strings"
	"testing"

	"stereobate/api"
	"stereobate/catalog"
	"stereobate/pack"
)

// noise answers numbers below n, the same ones each time.
func noise(seed uint64) func(n int) int {
	return func(n int) int {
		seed = seed*6364136223846793005 + 1442695040888963407
		return int((seed >> 33) % uint64(n))
	}
}

// some: so many bytes of noise.
func some(next func(int) int, n int) string {
	b := make([]byte, n)
	for i := range b {
		b[i] = byte(next(256))
	}
	return string(b)
}

// noughts: so many bytes 0.
func noughts(n int) string {
	return strings.Repeat("\x00", n)
}

// sealed: bytes and their sum (layer 2), built otherwise.
func sealed(body string) string {
	c := crc32.Checksum([]byte(body), crc32.MakeTable(crc32.Castagnoli))
	return string(binary.BigEndian.AppendUint32([]byte(body), c))
}

// laid: an entry's 60 bytes ahead of its sum by the document's words, built otherwise: each at its place.
func laid(x catalog.Entry, next int) string {
	b := make([]byte, 60)
	b[0] = 'V'
	binary.BigEndian.PutUint32(b[1:], x.ID)
	binary.BigEndian.PutUint32(b[5:], x.Parent)
	if x.Only {
		b[9] = 1
	}
	binary.BigEndian.PutUint16(b[10:], uint16(x.Size))
	binary.BigEndian.PutUint16(b[12:], uint16(x.Root))
	binary.BigEndian.PutUint32(b[14:], x.Born)
	binary.BigEndian.PutUint16(b[18:], uint16(next))
	return string(b)
}

// with: bytes of which those from one on are others.
func with(s string, at int, to ...byte) string {
	return s[:at] + string(to) + s[at+len(to):]
}

// entry: one of any numbers that may be.
func entry(next func(int) int) catalog.Entry {
	number := func() uint32 { return uint32(next(1<<16)<<16|next(1<<16)) >> next(32) }
	return catalog.Entry{
		ID:     max(number(), 1),
		Parent: number(),
		Only:   next(2) == 1,
		Size:   1 + next(2048),
		Root:   next(65536),
		Born:   number(),
	}
}

// parse: what Parse answers within a Guard, and how it failed.
func parse(s string) (catalog.Entry, int, api.Errno) {
	var x catalog.Entry
	next := 0
	e := pack.Guard(func() { x, next = catalog.Parse(s) })
	return x, next, e
}

// refused: Parse fails so, and answers nothing.
func refused(t *testing.T, what, s string, want api.Errno) {
	t.Helper()
	if x, next, e := parse(s); e != want || x != (catalog.Entry{}) || next != 0 {
		t.Errorf("%s: %+v, %d, %d, not %d", what, x, next, e, want)
	}
}

// same: an entry's bytes, and the entry out of them.
func same(t *testing.T, x catalog.Entry, next int) {
	t.Helper()
	s := x.Bytes(next)
	if s != sealed(laid(x, next)) {
		t.Fatalf("Bytes of %+v, %d: % x", x, next, s)
	}
	if got, at, e := parse(s); e != api.OK || got != x || at != next {
		t.Fatalf("Parse of the bytes of %+v, %d: %+v, %d, %d", x, next, got, at, e)
	}
}

// P15.1: an entry byte by byte.
func TestBytes(t *testing.T) {
	x := catalog.Entry{ID: 0x01020304, Parent: 0x05060708, Only: true, Size: 0x0102, Root: 0x1112, Born: 0x13141516}
	body := "V\x01\x02\x03\x04\x05\x06\x07\x08\x01\x01\x02\x11\x12\x13\x14\x15\x16\x17\x18" + noughts(40)
	if s := x.Bytes(0x1718); s != sealed(body) {
		t.Errorf("Bytes: % x", s)
	}
	x.Only = false
	if s := x.Bytes(0); s != sealed(with(with(body, 9, 0), 18, 0, 0)) {
		t.Errorf("Bytes: % x", s)
	}
}

// P15.1, P15.2: each number at each end of what it may be, by itself, there and back.
func TestThereAndBack(t *testing.T) {
	plain := catalog.Entry{ID: 1, Size: 1}
	same(t, plain, 0)
	for bit := range 32 {
		for _, n := range []uint32{1 << bit, 1<<bit - 1, math.MaxUint32 - 1<<bit, math.MaxUint32} {
			same(t, catalog.Entry{ID: max(n, 1), Size: 1}, 0)
			same(t, catalog.Entry{ID: 1, Parent: n, Size: 1}, 0)
			same(t, catalog.Entry{ID: 1, Size: 1, Born: n}, 0)
		}
	}
	same(t, catalog.Entry{ID: 1, Only: true, Size: 1}, 0)
	for size := 1; size <= 2048; size++ {
		same(t, catalog.Entry{ID: 1, Size: size}, 0)
	}
	for n := range 65536 {
		if n < 300 || n > 65300 || n%251 == 0 {
			same(t, catalog.Entry{ID: 1, Size: 1, Root: n}, 0)
			same(t, plain, n)
		}
	}
	next := noise(1)
	for range 2000 {
		same(t, entry(next), next(65536))
	}
}

// P15.1: what may be no entry has its bytes all the same, which Parse refuses.
func TestBytesRefused(t *testing.T) {
	good := catalog.Entry{ID: 7, Parent: 3, Only: true, Size: 9, Root: 77, Born: 2}
	for _, size := range []int{0, 2049, 2050, 4096, 4097, 32768, 65535} {
		x := good
		x.Size = size
		if s := x.Bytes(5); s != sealed(laid(x, 5)) {
			t.Errorf("Bytes of Size %d: % x", size, s)
		}
		refused(t, "another Size", x.Bytes(5), api.ErrForm)
	}
	x := good
	x.ID = 0
	if s := x.Bytes(65535); s != sealed(laid(x, 65535)) {
		t.Errorf("Bytes of ID 0: % x", s)
	}
	refused(t, "ID 0", x.Bytes(65535), api.ErrForm)
	refused(t, "nothing but a mark", catalog.Entry{}.Bytes(0), api.ErrForm)
}

// P15.2: bytes that Parse takes are those of the entry.
func TestBackAndThere(t *testing.T) {
	next := noise(2)
	for range 2000 {
		body := "V" + some(next, 19) + noughts(40)
		size := 1 + next(2048)
		s := sealed(with(body, 9, byte(next(2)), byte(size>>8), byte(size)))
		if x, at, e := parse(s); e != api.OK || x.Bytes(at) != s {
			t.Fatalf("Parse of % x: %+v, %d, %d", s, x, at, e)
		}
	}
}

// P15.1: what is too short, what was spoilt, what has more behind it.
func TestParseSealed(t *testing.T) {
	next := noise(3)
	s := catalog.Entry{ID: 1, Parent: 2, Only: true, Size: 3, Root: 4, Born: 5}.Bytes(6)
	for n := range 64 {
		refused(t, "too short", s[:n], api.ErrEnd)
	}
	for _, more := range []string{"\x00", "x", s} {
		refused(t, "longer", s+more, api.ErrForm)
	}
	for at := range 64 {
		for b := 1; b < 256; b++ {
			refused(t, "a byte is spoilt", with(s, at, s[at]^byte(b)), api.ErrSum)
		}
	}
	for range 500 {
		refused(t, "noise", some(next, 64), api.ErrSum)
	}
	refused(t, "noughts", noughts(64), api.ErrSum)
}

// P15.1: each byte that stands where the document says which ones may, with a sum that is right.
func TestParseForm(t *testing.T) {
	body := laid(catalog.Entry{ID: 1, Size: 1, Root: 9}, 4)
	for b := range 256 {
		if b != 'V' {
			refused(t, "another mark", sealed(with(body, 0, byte(b))), api.ErrForm)
		}
		if b > 1 {
			refused(t, "another Only", sealed(with(body, 9, byte(b))), api.ErrForm)
		}
		for at := 20; at < 60 && b > 0; at++ {
			refused(t, "a byte behind the next one's", sealed(with(body, at, byte(b))), api.ErrForm)
		}
	}
	for size := range 65536 {
		want := api.OK
		if size < 1 || size > 2048 {
			want = api.ErrForm
		}
		if _, _, e := parse(sealed(with(body, 10, byte(size>>8), byte(size)))); e != want {
			t.Fatalf("Size %d: %d, not %d", size, e, want)
		}
	}
	refused(t, "ID 0", sealed(with(body, 1, 0, 0, 0, 0)), api.ErrForm)
	for at := 1; at < 5; at++ {
		if x, _, e := parse(sealed(with(with(body, 1, 0, 0, 0, 0), at, 1))); e != api.OK || x.ID != 1<<(8*(4-at)) {
			t.Errorf("ID of one bit in byte %d: %+v, %d", at, x, e)
		}
	}
}

// K2: of several errors the first one.
func TestParseOrder(t *testing.T) {
	s := sealed(with(laid(catalog.Entry{}, 0), 0, 'N'))
	refused(t, "too short, another mark", s[:63], api.ErrEnd)
	refused(t, "too short, another sum", "x"+s[1:63], api.ErrEnd)
	refused(t, "another sum, longer, another mark", "x"+s[1:]+"z", api.ErrSum)
	refused(t, "another sum, ID 0", with(s, 63, s[63]^1), api.ErrSum)
	refused(t, "all that is no form", with(s[:60], 9, 2)+s[60:], api.ErrSum)
	refused(t, "all that is no form", sealed(with(s[:60], 9, 2))+"z", api.ErrForm)
}

// P15.1: any bytes of any length, and the numbers of others.
func TestParseAny(t *testing.T) {
	next := noise(4)
	for n := range 200 {
		want := api.ErrSum
		if n < 64 {
			want = api.ErrEnd
		}
		for range 20 {
			refused(t, "noise", some(next, n), want)
			refused(t, "noise behind a mark", ("V" + some(next, n))[:n], want)
		}
	}
	for range 5000 {
		body := "V" + some(next, 59)
		if next(2) == 0 {
			body = body[:20] + noughts(40)
		}
		only, size := byte(next(3)), next(3000)
		body = with(body, 9, only, byte(size>>8), byte(size))
		want := api.OK
		if only > 1 || size < 1 || size > 2048 || body[20:] != noughts(40) {
			want = api.ErrForm
		}
		x, at, e := parse(sealed(body))
		if e != want || e == api.OK && laid(x, at) != body || e != api.OK && (x != catalog.Entry{} || at != 0) {
			t.Fatalf("Parse of % x: %+v, %d, %d, not %d", body, x, at, e, want)
		}
	}
}
