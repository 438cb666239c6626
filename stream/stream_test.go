package stream_test

import (
	"slices"
	"strings"
	"testing"

	"stereobate/api"
	"stereobate/sha"
	"stereobate/stream"
)

// sizes: the least ones, the greatest ones, some between.
func sizes() []int {
	l := []int{31, 32, 33, 255, 256, 257, 1000}
	for n := 1; n <= 17; n++ {
		l = append(l, n, 2049-n)
	}
	return l
}

// P21.1: the document's example.
func TestExample(t *testing.T) {
	s := stream.Stream{Size: 1}
	if n := len(s.Bytes()); n != 77 {
		t.Errorf("%d bytes, not 77", n)
	}
	there(t, s)
	s.Items = []stream.Item{}
	there(t, s)
}

// P21.1: each part at its place.
func TestBytes(t *testing.T) {
	var base, target sha.Sum
	copy(base[:], strings.Repeat("b", 32))
	copy(target[:], strings.Repeat("t", 32))
	s := stream.Stream{Size: 0x0702, Base: base, Target: target, Items: []stream.Item{{At: 3}, {At: 0x0104, Data: full}}}
	want := "SBDF" + "\x01" + "\x07\x02" + strings.Repeat("b", 32) + strings.Repeat("t", 32) + "\x00\x02" +
		"\x00\x03" + "\x00" + "\x01\x04" + "\x01" + full
	if got := s.Bytes(); got != sealed(want) {
		t.Errorf("Bytes: %q", got)
	}
	there(t, s)
}

// P21.2: streams of all sizes, with many items and few, there and back.
func TestThereAndBack(t *testing.T) {
	next := noise(1)
	for _, size := range sizes() {
		for _, of := range []int{1, 2, 5, 100} {
			there(t, anyOf(next, size, of))
		}
	}
	for range 200 {
		there(t, anyOf(next, 1+next(2048), 1+next(300)))
	}
}

// P21.2: as many items as there may be.
func TestMost(t *testing.T) {
	for _, text := range []string{"", full} {
		s := stream.Stream{Size: 2048}
		for at := range 512 {
			s.Items = append(s.Items, stream.Item{At: at, Data: text})
		}
		there(t, s)
		s.Items = append(s.Items, stream.Item{At: 512, Data: text})
		if e := s.Check(); e != api.ErrForm {
			t.Errorf("Check of one more: %d", e)
		}
	}
}

// P21.1: sizes that no volume has, whatever else is wrong.
func TestCheckSize(t *testing.T) {
	bad := []stream.Item{{At: 9, Data: "x"}, {At: -1}}
	for _, size := range []int{least, -2048, -1, 0, 2049, 2050, 4096, 65535, 65536, 65537, 1<<32 + 1, greatest} {
		for _, l := range [][]stream.Item{nil, {{At: 0}}, bad} {
			if e := (stream.Stream{Size: size, Items: l}).Check(); e != api.ErrArg {
				t.Errorf("Check of size %d: %d", size, e)
			}
		}
	}
	for size := 1; size <= 2048; size++ {
		if e := (stream.Stream{Size: size}).Check(); e != api.OK {
			t.Errorf("Check of size %d: %d", size, e)
		}
	}
}

// P21.1: places that the volume has, and others, alone and behind one that may be.
func TestCheckAt(t *testing.T) {
	far := []int{least, least + 1, least / 4, -1 << 61, -513, -2, -1, 512, 513, 16384, 65535, 65536, 1 << 32, 1 << 61, 1<<61 + 1, 1 << 62, greatest / 4, greatest - 1, greatest}
	for _, size := range sizes() {
		has := (size + 3) / 4
		places := append(slices.Clone(far), 0, has-2, has-1, has, has+1)
		for _, at := range places {
			for _, text := range []string{"", "x" + noughts(255)} {
				want := api.ErrForm
				if at >= 0 && at < has {
					want = api.OK
				}
				x := stream.Item{At: at, Data: text}
				if e := (stream.Stream{Size: size, Items: []stream.Item{x}}).Check(); e != want {
					t.Errorf("Check of size %d, an item at %d: %d", size, at, e)
				}
				if at == 0 {
					want = api.ErrForm
				}
				if e := (stream.Stream{Size: size, Items: []stream.Item{{}, x}}).Check(); e != want {
					t.Errorf("Check of size %d, items at 0, %d: %d", size, at, e)
				}
			}
		}
	}
}

// P21.1: places rise, all of them.
func TestCheckRise(t *testing.T) {
	for a := range 4 {
		for b := range 4 {
			for c := range 4 {
				want := api.ErrForm
				if a < b && b < c {
					want = api.OK
				}
				for _, text := range []string{"", full} {
					s := stream.Stream{Size: 16, Items: []stream.Item{{At: a}, {At: b, Data: text}, {At: c}}}
					if e := s.Check(); e != want {
						t.Errorf("Check of items at %d, %d, %d: %d", a, b, c, e)
					}
				}
			}
		}
	}
}

// P21.1: bytes are none, or an extent's, not all 0.
func TestCheckData(t *testing.T) {
	for _, n := range []int{1, 2, 63, 64, 65, 128, 192, 255, 257, 320, 512, 1024} {
		for _, text := range []string{strings.Repeat("x", n), "x" + noughts(n-1), noughts(n)} {
			for _, size := range []int{1, 4, 5, 8, 2048} {
				s := stream.Stream{Size: size, Items: []stream.Item{{Data: text}}}
				if e := s.Check(); e != api.ErrForm {
					t.Errorf("Check of size %d, %d bytes: %d", size, n, e)
				}
			}
		}
	}
	for _, size := range []int{1, 3, 4, 5, 2048} {
		s := stream.Stream{Size: size, Items: []stream.Item{{Data: noughts(256)}}}
		if e := s.Check(); e != api.ErrForm {
			t.Errorf("Check of size %d, all bytes 0: %d", size, e)
		}
	}
}

// P21.1: behind the volume's last sector all bytes are 0: each byte, in extents of which it has one to four sectors.
func TestCheckBehind(t *testing.T) {
	for _, size := range sizes() {
		at := (size - 1) / 4
		for by := range 256 {
			one := noughts(by) + "\x80" + noughts(255-by)
			two := "x" + one[1:]
			for text, want := range map[string]bool{one: at*4+by/64 < size, two: by == 0 || at*4+by/64 < size} {
				s := stream.Stream{Size: size, Items: []stream.Item{{At: at, Data: text}}}
				if e := s.Check(); (e == api.OK) != want || e != may(s) {
					t.Errorf("Check of size %d, byte %d: %d", size, by, e)
				}
				if at > 0 {
					s.Items[0].At--
					if e := s.Check(); e != api.OK {
						t.Errorf("Check of size %d, byte %d of the extent ahead: %d", size, by, e)
					}
				}
			}
		}
	}
}

// P21.1: one item that may not be is found, wherever it stands.
func TestCheckEach(t *testing.T) {
	next := noise(2)
	for range 300 {
		s := anyOf(next, 1+next(400), 1+next(3))
		if len(s.Items) == 0 {
			continue
		}
		i := next(len(s.Items))
		x := &s.Items[i]
		switch next(5) {
		case 0:
			x.Data = noughts(256)
		case 1:
			x.Data = full[1:]
		case 2:
			x.At += next(5) - 2
		case 3:
			x.At, x.Data = (s.Size-1)/4, full
		case 4:
			s.Items = slices.Insert(s.Items, i, *x)
		}
		if e, want := s.Check(), may(s); e != want {
			t.Fatalf("Check of size %d, %d items: %d, not %d", s.Size, len(s.Items), e, want)
		}
	}
}
