package stamp_test

import (
	"encoding/binary"
	"math"
	"strings"
	"testing"

	"stereobate/api"
	"stereobate/pack"
	"stereobate/stamp"
)

// noise answers numbers below n, the same ones each time.
func noise(seed uint64) func(n int) int {
	return func(n int) int {
		seed = seed*6364136223846793005 + 1442695040888963407
		return int((seed >> 33) % uint64(n))
	}
}

// some: so many bytes of noise.
func some(next func(int) int, n int) string {
	b := make([]byte, n)
	for i := range b {
		b[i] = byte(next(256))
	}
	return string(b)
}

// frame: what Frame answers within a Guard, and how it failed.
func frame(s stamp.Stamp, text string) (string, api.Errno) {
	f := ""
	e := pack.Guard(func() { f = s.Frame(text) })
	return f, e
}

// must: a frame that has room for its text.
func must(t *testing.T, s stamp.Stamp, text string) string {
	t.Helper()
	f, e := frame(s, text)
	if e != api.OK {
		t.Fatalf("Frame of %d bytes: %d", len(text), e)
	}
	return f
}

// laid: a frame by the document's words, built otherwise: byte by byte, at its places.
func laid(s stamp.Stamp, text string) string {
	b := make([]byte, 64)
	for _, at := range []int{0, 56} {
		binary.BigEndian.PutUint32(b[at:], s.Epoch)
		binary.BigEndian.PutUint32(b[at+4:], s.Seq)
	}
	b[8] = byte(len(text))
	copy(b[9:56], text)
	return string(b)
}

// opens: it bears that text.
func opens(t *testing.T, s stamp.Stamp, sector, want string) {
	t.Helper()
	if got, ok := s.Open(sector); !ok || got != want {
		t.Errorf("Open of %v: %q, %v, not %q", s, got, ok, want)
	}
}

// shut: it is no frame of that stamp, and nothing is told of it.
func shut(t *testing.T, what string, s stamp.Stamp, sector string) {
	t.Helper()
	if got, ok := s.Open(sector); ok || got != "" {
		t.Errorf("%s: Open of %v: %q, %v", what, s, got, ok)
	}
}

// with: a sector in which one byte is another one.
func with(sector string, at int, b byte) string {
	return sector[:at] + string([]byte{b}) + sector[at+1:]
}

var stamps = []stamp.Stamp{
	{}, {Epoch: 1, Seq: 2}, {Epoch: 2, Seq: 1}, {Seq: 1}, {Epoch: 1}, {Epoch: 0x01020304, Seq: 0x05060708},
	{Epoch: math.MaxUint32}, {Seq: math.MaxUint32}, {Epoch: math.MaxUint32, Seq: math.MaxUint32}, {Epoch: 0x80000000, Seq: 0x00000080},
}

// P5.1: the limit, and the document's example.
func TestExample(t *testing.T) {
	if stamp.Room != 47 {
		t.Errorf("Room: %d", stamp.Room)
	}
	f := must(t, stamp.Stamp{Epoch: 1, Seq: 2}, "ab")
	if want := "\x00\x00\x00\x01\x00\x00\x00\x02\x02ab"; !strings.HasPrefix(f, want) {
		t.Errorf("Frame: % x", f)
	}
	if want := "\x00\x00\x00\x00\x01\x00\x00\x00\x02"; !strings.HasSuffix(f, want) {
		t.Errorf("Frame: % x", f)
	}
}

// P5.1, P5.2: frames of each length, with each stamp, byte by byte, and what they bear.
func TestFrame(t *testing.T) {
	next := noise(1)
	for _, s := range stamps {
		for n := range stamp.Room + 1 {
			for _, text := range []string{some(next, n), strings.Repeat("\x00", n), strings.Repeat("\xff", n)} {
				f := must(t, s, text)
				if f != laid(s, text) {
					t.Fatalf("Frame of %v, %q: % x", s, text, f)
				}
				if stamp.Of(f) != s {
					t.Errorf("Of: %v, not %v", stamp.Of(f), s)
				}
				opens(t, s, f, text)
			}
		}
	}
}

// P5.1: a text of Room bytes has room; of one more, and of many more, it is refused.
func TestFrameBig(t *testing.T) {
	for _, n := range []int{46, 47, 48, 49, 55, 64, 255, 256, 257, 303, 70000} {
		want := api.OK
		if n > 47 {
			want = api.ErrBig
		}
		f, e := frame(stamp.Stamp{Epoch: 3, Seq: 4}, strings.Repeat("z", n))
		if e != want {
			t.Errorf("Frame of %d bytes: %d, not %d", n, e, want)
		}
		if e != api.OK && f != "" {
			t.Errorf("Frame of %d bytes: % x beside an error", n, f)
		}
	}
}

// P5.1: Of looks at the first eight bytes alone, and at none if there are less.
func TestOf(t *testing.T) {
	const text = "\x01\x02\x03\x04\xf5\xf6\xf7\xf8rest"
	for n := range len(text) + 1 {
		want := stamp.Stamp{}
		if n >= 8 {
			want = stamp.Stamp{Epoch: 0x01020304, Seq: 0xf5f6f7f8}
		}
		if got := stamp.Of(text[:n]); got != want {
			t.Errorf("Of %d bytes: %x", n, got)
		}
	}
	f := must(t, stamp.Stamp{Epoch: 5, Seq: 6}, "x")
	for what, s := range map[string]string{"longer": f + "more", "torn": f[:8] + strings.Repeat("\xff", 56)} {
		if got := stamp.Of(s); got != (stamp.Stamp{Epoch: 5, Seq: 6}) {
			t.Errorf("Of, %s: %v", what, got)
		}
	}
}

// P5.1: what is shorter or longer than a sector is no frame.
func TestOpenLength(t *testing.T) {
	for _, s := range stamps {
		for _, text := range []string{"", "hello", strings.Repeat("h", 46), strings.Repeat("h", 47)} {
			f := must(t, s, text)
			for n := range 64 {
				shut(t, "shorter", s, f[:n])
				shut(t, "shorter, the front", s, f[64-n:])
			}
			for _, more := range []string{"\x00", "x", f[:8], f[56:], f} {
				shut(t, "longer", s, f+more)
				shut(t, "longer, in front", s, more+f)
				shut(t, "longer, in between", s, f[:56]+more+f[56:])
			}
			// Taken out of the noughts, with both stamps at the ends.
			if len(text) < 47 {
				shut(t, "shorter, in between", s, f[:55]+f[56:])
			}
		}
	}
}

// P5.1: just one stamp opens a frame, and both ends have to have it.
func TestOpenStamp(t *testing.T) {
	for _, a := range stamps {
		for _, b := range stamps {
			if a == b {
				continue
			}
			f, g := must(t, a, "hello"), must(t, b, "hello")
			opens(t, a, f, "hello")
			shut(t, "another stamp", b, f)
			for _, s := range []stamp.Stamp{a, b} {
				shut(t, "the first stamp is another one", s, g[:8]+f[8:])
				shut(t, "the last stamp is another one", s, f[:56]+g[56:])
			}
		}
	}
}

// P5.1: how many bytes it bears is at most Room, and behind them stand bytes 0 alone.
func TestOpenBears(t *testing.T) {
	s := stamp.Stamp{Epoch: 9, Seq: 8}
	for n := range stamp.Room + 1 {
		f := must(t, s, strings.Repeat("b", n))
		for at := 9 + n; at < 56; at++ {
			for _, b := range []byte{1, 'b', 0x80, 0xff} {
				shut(t, "a byte behind what it bears", s, with(f, at, b))
			}
		}
		for count := range 256 {
			other := with(f, 8, byte(count))
			switch {
			case count < n || count > 47:
				shut(t, "it says otherwise", s, other)
			default:
				opens(t, s, other, strings.Repeat("b", n)+strings.Repeat("\x00", count-n))
			}
		}
	}
	// Where the last stamp would be borne, too.
	full := must(t, s, strings.Repeat("b", 47))
	shut(t, "48", s, with(full, 8, 48))
	shut(t, "55", s, with(full, 8, 55))
}

// P5.1: any one byte that is spoilt outside of what a frame bears shuts it.
func TestOpenSpoilt(t *testing.T) {
	s := stamp.Stamp{Epoch: 0x0a0b0c0d, Seq: 0x01000001}
	f := must(t, s, "hello")
	for at := range 64 {
		for b := 1; b < 256; b++ {
			bad := with(f, at, f[at]^byte(b))
			switch {
			case at >= 9 && at < 14:
				opens(t, s, bad, bad[9:14])
			case at == 8 && bad[8] > 5 && bad[8] <= 47:
				opens(t, s, bad, bad[9:9+int(bad[8])])
			default:
				shut(t, "spoilt", s, bad)
			}
		}
	}
}

// P5.1: what isn't a frame at all.
func TestOpenNoise(t *testing.T) {
	next := noise(2)
	for range 2000 {
		shut(t, "noise", stamp.Stamp{Epoch: 1, Seq: 1}, some(next, next(130)))
	}
	zero := strings.Repeat("\x00", 64)
	opens(t, stamp.Stamp{}, zero, "")
	shut(t, "noughts", stamp.Stamp{Seq: 1}, zero)
	shut(t, "nothing", stamp.Stamp{}, "")
}

// torn: what Open must answer behind each of a frame's bytes.
func torn(t *testing.T, s stamp.Stamp, text, old string) {
	t.Helper()
	f := must(t, s, text)
	if len(old) != 64 || old[56:] == f[56:] {
		t.Fatalf("no case: %q", old)
	}
	for n := range 65 {
		sector := f[:n] + old[n:]
		if sector == f {
			opens(t, s, sector, text)
		} else {
			shut(t, "torn", s, sector)
		}
	}
}

// P5.3: behind each of a frame's bytes, over frames, noughts and noise that stood there.
func TestTorn(t *testing.T) {
	next := noise(3)
	for _, s := range stamps {
		for _, text := range []string{"", "h", "hello", some(next, 46), some(next, 47), strings.Repeat("\x00", 47)} {
			for _, was := range stamps {
				if was == s {
					continue
				}
				torn(t, s, text, must(t, was, ""))
				torn(t, s, text, must(t, was, text))
				torn(t, s, text, must(t, was, some(next, 47)))
			}
			for range 20 {
				torn(t, s, text, some(next, 64)[:56]+"\xaa"+some(next, 7))
			}
		}
	}
}

// P5.3: what stood there ends nearly as the frame does: one byte of its last stamp is another one, whichever.
func TestTornNearly(t *testing.T) {
	for _, s := range stamps {
		f := must(t, s, "hello")
		for at := 56; at < 64; at++ {
			for _, b := range []byte{1, 0x80, 0xff} {
				old := with(f, at, f[at]^b)
				torn(t, s, "hello", old)
				// All new up to that byte: it is the frame, though the bytes behind it are the old ones.
				opens(t, s, f[:at+1]+old[at+1:], "hello")
				shut(t, "the byte is the old one", s, f[:at]+old[at:])
			}
		}
	}
}

// P5.3: of what stood there nothing is told by its own stamp, either, as soon as a byte of it is gone.
func TestTornOld(t *testing.T) {
	a, b := stamp.Stamp{Epoch: 7, Seq: 300}, stamp.Stamp{Epoch: 7, Seq: 301}
	f, old := must(t, a, "new"), must(t, b, strings.Repeat("z", 47))
	for n := range 64 {
		sector := f[:n] + old[n:]
		if sector == old {
			opens(t, b, sector, strings.Repeat("z", 47))
		} else {
			shut(t, "torn", b, sector)
		}
	}
}

// K4: one and the same again, whatever was asked ahead.
func TestAgain(t *testing.T) {
	s := stamp.Stamp{Epoch: 1, Seq: 2}
	first := must(t, s, "one")
	must(t, stamp.Stamp{Epoch: 3}, "other")
	frame(s, strings.Repeat("x", 48))
	s.Open("junk")
	if again := must(t, s, "one"); again != first {
		t.Errorf("Frame: % x, then % x", first, again)
	}
}
