package sha_test

import (
	"crypto/sha256"
	"encoding/hex"
	"io"
	"math"
	"slices"
	"strings"
	"testing"

	"stereobate/sha"
)

// noise is n bytes of which no two blocks are alike, the same ones each time.
func noise(n int) string {
	b := make([]byte, n)
	x := uint32(1)
	for i := range b {
		x = x*1664525 + 1013904223
		b[i] = byte(x >> 24)
	}
	return string(b)
}

func known(s string) sha.Sum {
	return sha.Sum(sha256.Sum256([]byte(s)))
}

// P1.1: Of and Hex, by sums that are known from elsewhere.
func TestKnownSums(t *testing.T) {
	for _, c := range []struct{ text, hex string }{
		{"", "e3b0c44298fc1c149afbf4c8996fb92427ae41e4649b934ca495991b7852b855"},
		{"abc", "ba7816bf8f01cfea414140de5dae2223b00361a396177a9cb410ff61f20015ad"},
		{"abcdbcdecdefdefgefghfghighijhijkijkljklmklmnlmnomnopnopq", "248d6a61d20638b8e5c026930c3e6039a33ce45964ff2167f6ecedd419db06c1"},
		{"abcdefghbcdefghicdefghijdefghijkefghijklfghijklmghijklmnhijklmnoijklmnopjklmnopqklmnopqrlmnopqrsmnopqrstnopqrstu", "cf5b16a778af8380036ce59e7b0492370b249b11e8f07a51afac45037afee9d1"},
		{strings.Repeat("a", 1000000), "cdc76e5c9914fb9281a1c7e284d73e67f1809a48a497200e046d39ccc7112cd0"},
	} {
		if x := sha.Of(c.text).Hex(); x != c.hex {
			t.Errorf("Of %d bytes: %s, not %s", len(c.text), x, c.hex)
		}
	}
}

// P1.1: Of no part, and of parts that are empty, is the sum of the empty text.
func TestOfNothing(t *testing.T) {
	empty := known("")
	for _, parts := range [][]string{nil, {}, {""}, {"", ""}, make([]string, 100)} {
		if sha.Of(parts...) != empty {
			t.Errorf("Of %d empty parts: %s", len(parts), sha.Of(parts...).Hex())
		}
	}
	if sha.Of() != empty {
		t.Errorf("Of(): %s", sha.Of().Hex())
	}
	if sha.Of("", "ab", "", "c", "") != known("abc") {
		t.Error("empty parts between others change the sum")
	}
}

// P1.1: Of, of every length around several multiples of 64, of all kinds of bytes.
func TestOfLengths(t *testing.T) {
	all := noise(5 * 64)
	for n := range len(all) + 1 {
		if sha.Of(all[:n]) != known(all[:n]) {
			t.Errorf("Of %d bytes: %s", n, sha.Of(all[:n]).Hex())
		}
	}
	for b := range 256 {
		s := strings.Repeat(string([]byte{byte(b)}), 64)
		if sha.Of(s[:1]) != known(s[:1]) || sha.Of(s) != known(s) {
			t.Errorf("Of bytes %d", b)
		}
	}
	for _, n := range []int{1 << 12, 1<<16 - 1, 1 << 16, 1<<16 + 55, 1<<16 + 56} {
		if s := noise(n); sha.Of(s) != known(s) {
			t.Errorf("Of %d bytes: %s", n, sha.Of(s).Hex())
		}
	}
}

// P1.1: wherever a text is cut into parts, its sum is one.
func TestOfParts(t *testing.T) {
	all := noise(150)
	want := known(all)
	for i := range len(all) + 1 {
		for j := i; j <= len(all); j++ {
			if sha.Of(all[:i], all[i:j], all[j:]) != want {
				t.Fatalf("cut at %d and %d", i, j)
			}
		}
	}
	var one []string
	for i := range len(all) {
		one = append(one, all[i:i+1])
	}
	if sha.Of(one...) != want {
		t.Error("byte by byte")
	}
	if sha.Of("ab", "c") == sha.Of("c", "ab") {
		t.Error("the order of parts isn't told")
	}
}

// P1.1: the number of bits has more than 32 of its own.
func TestOfManyBits(t *testing.T) {
	part := noise(1 << 20)
	parts := slices.Repeat([]string{part}, 1<<9)
	h := sha256.New()
	for _, p := range parts {
		io.WriteString(h, p)
	}
	if sha.Of(parts...) != sha.Sum(h.Sum(nil)) {
		t.Error("Of 2^32 bits")
	}
}

// P1.1: Text and Hex, of each byte at each place.
func TestTextAndHex(t *testing.T) {
	for b := range 256 {
		var s sha.Sum
		for i := range s {
			s[i] = byte(b + 7*i)
		}
		if s.Text() != string(s[:]) || len(s.Text()) != 32 {
			t.Errorf("Text of %v: %q", s, s.Text())
		}
		if s.Hex() != hex.EncodeToString(s[:]) {
			t.Errorf("Hex of %v: %s", s, s.Hex())
		}
	}
	var none sha.Sum
	if none.Text() != strings.Repeat("\x00", 32) || none.Hex() != strings.Repeat("0", 64) {
		t.Errorf("of noughts: %q, %s", none.Text(), none.Hex())
	}
}

// first is Head by its words, bit by bit.
func first(s sha.Sum, n int) sha.Sum {
	var out sha.Sum
	for i := range 256 {
		if i < n {
			out[i/8] |= s[i/8] & (0x80 >> (i % 8))
		}
	}
	return out
}

// P1.1: Head, of each number of bits, and of those outside.
func TestHead(t *testing.T) {
	ones := sha.Sum{}
	for i := range ones {
		ones[i] = 0xff
	}
	for _, s := range []sha.Sum{ones, sha.Of("abc"), sha.Of(""), {}} {
		for n := -300; n <= 600; n++ {
			if s.Head(n) != first(s, n) {
				t.Errorf("%s: Head %d: %s", s.Hex(), n, s.Head(n).Hex())
			}
		}
		for _, n := range []int{math.MinInt, math.MinInt32, -8, -1, 0} {
			if s.Head(n) != (sha.Sum{}) {
				t.Errorf("%s: Head %d: %s", s.Hex(), n, s.Head(n).Hex())
			}
		}
		for _, n := range []int{256, 257, 264, math.MaxInt32, math.MaxInt} {
			if s.Head(n) != s {
				t.Errorf("%s: Head %d: %s", s.Hex(), n, s.Head(n).Hex())
			}
		}
	}
	x := sha.Of("abc")
	for n, want := range map[int]string{1: "80", 3: "a0", 8: "ba", 12: "ba70", 13: "ba78", 24: "ba7816"} {
		if got := x.Head(n).Hex(); got != want+strings.Repeat("0", 64-len(want)) {
			t.Errorf("Head %d: %s", n, got)
		}
	}
}

// K3, K4: what is handed in stays, a sum isn't changed by what is asked of it, and answers are the same ones again.
func TestNothingIsKept(t *testing.T) {
	parts := []string{"a", "", "bc"}
	was := slices.Clone(parts)
	x := sha.Of(parts...)
	if !slices.Equal(parts, was) {
		t.Errorf("parts are %q", parts)
	}
	y := x
	x.Head(9)
	x.Hex()
	x.Text()
	if x != y {
		t.Error("a sum has changed")
	}
	sha.Of(noise(1000))
	if sha.Of(parts...) != y {
		t.Error("the sum of before is another one")
	}
}
