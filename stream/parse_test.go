package stream_test

import (
	"slices"
	"testing"

	"stereobate/api"
	"stereobate/sha"
	"stereobate/stream"
)

// sample: a stream with items of both kinds, the last one of an extent of which the volume has two sectors.
func sample() stream.Stream {
	return stream.Stream{Size: 10, Base: sha.Of("a"), Target: sha.Of("b"), Items: []stream.Item{
		{At: 0, Data: full}, {At: 1}, {At: 2, Data: full[:128] + noughts(128)},
	}}
}

// P21.1: bytes that end too soon: their sum is another one, but where there is room for none.
func TestParseShort(t *testing.T) {
	for _, text := range []string{sample().Bytes(), stream.Stream{Size: 1}.Bytes()} {
		for n := range len(text) {
			want := api.ErrSum
			if n < 4 {
				want = api.ErrEnd
			}
			refused(t, "too short", text[:n], want)
		}
		refused(t, "longer", text+"\x00", api.ErrSum)
		refused(t, "ahead of all", "\x00"+text, api.ErrSum)
	}
	for n := range 4 {
		refused(t, "noughts", noughts(n), api.ErrEnd)
		refused(t, "others", full[:n], api.ErrEnd)
	}
}

// P21.1: a sum of nothing.
func TestParseNothing(t *testing.T) {
	refused(t, "a sum alone", noughts(4), api.ErrEnd)
	refused(t, "another sum alone", "\x00\x00\x00\x01", api.ErrSum)
}

// P21.1: bytes that end too soon, with their sum.
func TestParseEnd(t *testing.T) {
	for _, s := range []stream.Stream{sample(), {Size: 1}} {
		b := body(s)
		for n := range len(b) {
			refused(t, "too short", sealed(b[:n]), api.ErrEnd)
		}
	}
}

// P21.1: each byte that is spoilt, and bits that are.
func TestParseSpoilt(t *testing.T) {
	for _, text := range []string{stream.Stream{Size: 7, Items: []stream.Item{{At: 1}}}.Bytes(), sample().Bytes()} {
		for at := range len(text) {
			for with := 1; with < 256; with++ {
				bad := []byte(text)
				bad[at] ^= byte(with)
				refused(t, "a byte is spoilt", string(bad), api.ErrSum)
			}
		}
	}
}

// other: some bytes with another one at a place.
func other(b string, at int, by byte) string {
	return b[:at] + string([]byte{by}) + b[at+1:]
}

// P21.1: what a stream begins with, as far as it stands there.
func TestParseFront(t *testing.T) {
	b := body(sample())
	for at := range 5 {
		for by := range 256 {
			if bad := other(b, at, byte(by)); bad != b {
				refused(t, "another front", sealed(bad), api.ErrForm)
				refused(t, "another front alone", sealed(bad[:max(at+1, 4)]), api.ErrForm)
			}
		}
	}
	for _, s := range []string{"x", "xy", "xyz", "SBD", "BDF"} {
		refused(t, "less than a front", sealed(s), api.ErrEnd)
	}
	refused(t, "a front alone", sealed("SBDF"), api.ErrEnd)
	refused(t, "another version ahead of no size", sealed("SBDF\x00"), api.ErrForm)
}

// P21.1: an item's byte is 0 or 1, wherever the item stands, whatever comes behind it.
func TestParseKind(t *testing.T) {
	b := body(sample())
	for _, at := range []int{75, 75 + 256 + 3, 75 + 256 + 6} {
		for by := 2; by < 256; by++ {
			bad := other(b, at, byte(by))
			refused(t, "another kind", sealed(bad), api.ErrForm)
			refused(t, "another kind, the last byte", sealed(bad[:at+1]), api.ErrForm)
		}
	}
	refused(t, "none as some", sealed(other(b, 75, 0)), api.ErrForm)
	refused(t, "some as none", sealed(other(b, len(b)-257, 0)), api.ErrForm)
}

// P21.1: more items than are told, and less.
func TestParseCount(t *testing.T) {
	b := body(sample())
	for n := range 300 {
		bad := other(other(b, 71, byte(n>>8)), 72, byte(n))
		switch {
		case n < 3:
			refused(t, "more items", sealed(bad), api.ErrForm)
		case n > 3:
			refused(t, "less items", sealed(bad), api.ErrEnd)
		}
	}
	refused(t, "less items", sealed(other(other(b, 71, 255), 72, 255)), api.ErrEnd)
	none := body(stream.Stream{Size: 2048})
	refused(t, "no item", sealed(other(none, 71, 255)), api.ErrEnd)
}

// P21.1: what is left behind the last item.
func TestParseLeft(t *testing.T) {
	for _, s := range []stream.Stream{sample(), {Size: 1}} {
		for _, more := range []string{"\x00", "x", full, noughts(3)} {
			refused(t, "something is left", sealed(body(s)+more), api.ErrForm)
		}
		refused(t, "twice", sealed(body(s)+body(s)), api.ErrForm)
		refused(t, "twice, with the sum", sealed(s.Bytes()), api.ErrForm)
	}
}

// P21.1: what Check refuses.
func TestParseCheck(t *testing.T) {
	for _, size := range []int{0, 2049, 4096, 32769, 65535} {
		refused(t, "no such size", sealed(body(stream.Stream{Size: size})), api.ErrArg)
		refused(t, "no such size, items that fall", sealed(body(stream.Stream{Size: size, Items: []stream.Item{{At: 1}, {At: 0}}})), api.ErrArg)
	}
	for _, l := range [][]stream.Item{
		{{At: 3}}, {{At: 65535}}, {{At: 256}}, {{At: 1}, {At: 1}}, {{At: 2}, {At: 1}}, {{At: 0, Data: noughts(256)}},
		{{At: 2, Data: full}}, {{At: 2, Data: full[:129] + noughts(127)}}, {{At: 0, Data: full}, {At: 2, Data: noughts(255) + "x"}},
	} {
		refused(t, "items that may not be", sealed(body(stream.Stream{Size: 10, Items: l})), api.ErrForm)
	}
}

// K2: of several errors the first one.
func TestParseOrder(t *testing.T) {
	b := body(stream.Stream{Size: 0, Items: []stream.Item{{At: 9, Data: full}}})
	refused(t, "no such size", sealed(b), api.ErrArg)
	refused(t, "no such size, something left", sealed(b+"x"), api.ErrForm)
	refused(t, "no such size, too short", sealed(b[:len(b)-1]), api.ErrEnd)
	refused(t, "another kind, too short", sealed(other(b, 75, 2)[:80]), api.ErrForm)
	refused(t, "another front, too short", sealed("SBDG"), api.ErrForm)
	refused(t, "another version, another kind", sealed(other(other(b, 75, 2), 4, 2)), api.ErrForm)
	refused(t, "another sum, another front", "x"+sealed(b)[1:], api.ErrSum)
	two := body(stream.Stream{Size: 1, Items: []stream.Item{{At: 9, Data: full}, {At: 9}}})
	refused(t, "no such place, then too short", sealed(two[:len(two)-1]), api.ErrEnd)
}

// told: Parse answers of bytes and their sum what the document's words ask for; what is read has these bytes alone.
func told(t *testing.T, b string) api.Errno {
	t.Helper()
	got, e := parse(sealed(b))
	want, we := read(b)
	if e != we || !same(got, want) {
		t.Fatalf("Parse of %d bytes, % x ..: %d, not %d", len(b), b[:min(len(b), 80)], e, we)
	}
	if e == api.OK && (got.Check() != api.OK || got.Bytes() != sealed(b)) {
		t.Fatalf("Bytes of size %d, %d items aren't those that were read", got.Size, len(got.Items))
	}
	return e
}

// mangled: bytes of which some are others, or gone, or come, or stand twice.
func mangled(next func(int) int, b string) string {
	at := next(len(b) + 1)
	if next(2) == 0 { // of what isn't an extent's bytes
		at = min(next(80), len(b))
	}
	switch next(6) {
	case 0:
		return b[:at]
	case 1:
		return b[:at] + some(next, 1+next(4)) + b[at:]
	case 2:
		return b[:at] + b[min(at+1+next(4), len(b)):]
	case 3:
		return b[:at] + b[next(at+1):]
	}
	if at == len(b) {
		return b
	}
	return other(b, at, byte(next(256))>>next(8))
}

// P21.1, P21.2, P7: streams' bytes that were mangled, a few times over.
func TestParseMangled(t *testing.T) {
	next, ended := noise(3), map[api.Errno]int{}
	for range 20000 {
		b := body(anyOf(next, 1+next(40), 1+next(6)))
		for range 1 + next(3) {
			b = mangled(next, b)
		}
		ended[told(t, b)]++
	}
	for _, e := range []api.Errno{api.OK, api.ErrForm, api.ErrEnd, api.ErrArg} {
		if ended[e] < 20 {
			t.Errorf("%d: %d times alone", e, ended[e])
		}
	}
}

// P21.1, P21.2: each byte of a stream's with each other one in its place.
func TestParseEach(t *testing.T) {
	s := stream.Stream{Size: 7, Base: sha.Of("a"), Items: []stream.Item{{At: 0}, {At: 1, Data: data(noise(4), 3)}}}
	b := body(s)
	for at := range len(b) {
		for by := range 256 {
			told(t, other(b, at, byte(by)))
		}
	}
}

// P21.1, P7: noise, alone, with its sum, and behind a front.
func TestParseNoise(t *testing.T) {
	next := noise(5)
	for range 5000 {
		s := some(next, next(400))
		want := api.ErrSum
		if len(s) < 4 {
			want = api.ErrEnd
		}
		refused(t, "noise", s, want)
		told(t, s)
		told(t, "SBDF\x01"+s)
		told(t, "SBDF\x01\x00\x09"+some(next, 64)+"\x00"+string([]byte{byte(next(4))})+s)
	}
}

// K3: what was read stays as it is.
func TestParseApart(t *testing.T) {
	text := sample().Bytes()
	one, _ := parse(text)
	two, _ := parse(text)
	one.Items[0].At = 9
	one.Items = append(one.Items[:1], stream.Item{At: 8})
	if !same(two, sample()) || !slices.Equal(two.Items, sample().Items) {
		t.Error("another answer has changed")
	}
}
