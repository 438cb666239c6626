package seal_test

import (
	"hash/crc32"
	"strings"
	"testing"

	"stereobate/api"
	"stereobate/pack"
	"stereobate/seal"
)

// sealed: 60 bytes and their sum, built otherwise.
func sealed(body string) string {
	c := crc32.Checksum([]byte(body), crc32.MakeTable(crc32.Castagnoli))
	return body + string([]byte{byte(c >> 24), byte(c >> 16), byte(c >> 8), byte(c)})
}

// shut: what Close answers of a text, and how it failed.
func shut(text string) (string, api.Errno) {
	s := ""
	e := pack.Guard(func() { s = seal.Close(new(pack.Out).Text(text)) })
	return s, e
}

// open: what stands ahead of the sum, and how it failed.
func open(s string) (string, api.Errno) {
	text := ""
	e := pack.Guard(func() {
		in := seal.Open(s)
		text = in.Text(in.Left())
	})
	return text, e
}

// There and back, of each length that has room; a longer one is refused.
func TestThereAndBack(t *testing.T) {
	for n := range 70 {
		text := strings.Repeat("s", n)
		s, e := shut(text)
		if n > 60 {
			if e != api.ErrBig || s != "" {
				t.Errorf("Close of %d bytes: %q, %d", n, s, e)
			}
			continue
		}
		body := text + strings.Repeat("\x00", 60-n)
		if e != api.OK || s != sealed(body) {
			t.Errorf("Close of %d bytes: % x, %d", n, s, e)
		}
		if got, e := open(s); e != api.OK || got != body {
			t.Errorf("Open of %d bytes: %q, %d", n, got, e)
		}
	}
}

// Too short, another sum, something behind: of several errors the first one.
func TestErrors(t *testing.T) {
	s := sealed(strings.Repeat("body", 15))
	for n := range 64 {
		if got, e := open(s[:n]); e != api.ErrEnd || got != "" {
			t.Errorf("%d bytes: %q, %d", n, got, e)
		}
	}
	for _, more := range []string{"\x00", "x", s} {
		if _, e := open(s + more); e != api.ErrForm {
			t.Errorf("%d bytes more: %d", len(more), e)
		}
		if _, e := open("x" + s[1:] + more); e != api.ErrSum {
			t.Errorf("another sum, %d bytes more: %d", len(more), e)
		}
	}
	for at := range 64 {
		for bit := range 8 {
			b := []byte(s)
			b[at] ^= 1 << bit
			if _, e := open(string(b)); e != api.ErrSum {
				t.Errorf("byte %d, bit %d: %d", at, bit, e)
			}
		}
	}
}
