package stream_test

import (
	"encoding/binary"
	"hash/crc32"
	"slices"
	"strings"
	"testing"

	"stereobate/api"
	"stereobate/pack"
	"stereobate/sha"
	"stereobate/stream"
)

const (
	greatest = 1<<63 - 1
	least    = -1 << 63
)

// noise: numbers below n, the same ones of the same seed.
func noise(seed uint64) func(n int) int {
	return func(n int) int {
		seed = seed*6364136223846793005 + 1442695040888963407
		return int((seed >> 33) % uint64(n))
	}
}

// some: so many bytes of noise.
func some(next func(int) int, n int) string {
	b := make([]byte, n)
	for i := range b {
		b[i] = byte(next(256))
	}
	return string(b)
}

func noughts(n int) string {
	return strings.Repeat("\x00", n)
}

// full: an extent without a byte 0.
var full = strings.Repeat("x", 256)

// data: an extent of noise of which the volume has so many sectors; the first byte isn't 0.
func data(next func(int) int, sectors int) string {
	n := min(sectors, 4) * 64
	return string([]byte{byte(1 + next(255))}) + some(next, n-1) + noughts(256-n)
}

// anyOf: a stream that may be, of a size; an extent is an item as often as one of so many.
func anyOf(next func(int) int, size, of int) stream.Stream {
	s := stream.Stream{Size: size, Base: sha.Of(some(next, 3)), Target: sha.Of(some(next, 3))}
	for at := 0; at*4 < size; at++ {
		if next(of) > 0 {
			continue
		}
		x := stream.Item{At: at}
		if next(4) > 0 {
			x.Data = data(next, size-at*4)
		}
		s.Items = append(s.Items, x)
	}
	return s
}

// sealed: bytes and their sum (layer 2), built otherwise.
func sealed(body string) string {
	c := crc32.Checksum([]byte(body), crc32.MakeTable(crc32.Castagnoli))
	return string(binary.BigEndian.AppendUint32([]byte(body), c))
}

// body: a stream's bytes ahead of their sum by the document's words, built otherwise.
func body(s stream.Stream) string {
	b := []byte("SBDF\x01")
	b = binary.BigEndian.AppendUint16(b, uint16(s.Size))
	b = append(b, s.Base[:]...)
	b = append(b, s.Target[:]...)
	b = binary.BigEndian.AppendUint16(b, uint16(len(s.Items)))
	for _, x := range s.Items {
		b = binary.BigEndian.AppendUint16(b, uint16(x.At))
		if x.Data == "" {
			b = append(b, 0)
			continue
		}
		b = append(append(b, 1), x.Data...)
	}
	return string(b)
}

// number: of two bytes at a place.
func number(s string, at int) int {
	return int(binary.BigEndian.Uint16([]byte(s[at : at+2])))
}

// read: what Parse is to answer of bytes and their sum, by the document's words: place by place.
func read(b string) (stream.Stream, api.Errno) {
	var s stream.Stream
	for _, x := range []struct {
		upto int
		ok   func() bool
	}{
		{4, func() bool { return b[:4] == "SBDF" }},
		{5, func() bool { return b[4] == 1 }},
		{73, func() bool { return true }},
	} {
		if len(b) < x.upto {
			return stream.Stream{}, api.ErrEnd
		}
		if !x.ok() {
			return stream.Stream{}, api.ErrForm
		}
	}
	s.Size = number(b, 5)
	copy(s.Base[:], b[7:39])
	copy(s.Target[:], b[39:71])
	at := 73
	for n := number(b, 71); n > 0; n-- {
		if len(b) < at+3 {
			return stream.Stream{}, api.ErrEnd
		}
		x := stream.Item{At: number(b, at)}
		kind := b[at+2]
		if kind > 1 {
			return stream.Stream{}, api.ErrForm
		}
		at += 3
		if kind == 1 {
			if len(b) < at+256 {
				return stream.Stream{}, api.ErrEnd
			}
			x.Data = b[at : at+256]
			at += 256
		}
		s.Items = append(s.Items, x)
	}
	if len(b) > at {
		return stream.Stream{}, api.ErrForm
	}
	if e := may(s); e != api.OK {
		return stream.Stream{}, e
	}
	return s, api.OK
}

// may: what Check is to answer, by the document's words: by the sectors that a volume has. Places are below 2^60.
func may(s stream.Stream) api.Errno {
	if s.Size < 1 || s.Size > 2048 {
		return api.ErrArg
	}
	for i, x := range s.Items {
		if x.At < 0 || x.At*4 >= s.Size || i > 0 && x.At <= s.Items[i-1].At {
			return api.ErrForm
		}
		if x.Data == "" {
			continue
		}
		if len(x.Data) != 256 || x.Data == noughts(256) {
			return api.ErrForm
		}
		for by := range 256 {
			if x.At*4+by/64 >= s.Size && x.Data[by] != 0 {
				return api.ErrForm
			}
		}
	}
	return api.OK
}

func same(s, o stream.Stream) bool {
	return s.Size == o.Size && s.Base == o.Base && s.Target == o.Target && slices.Equal(s.Items, o.Items)
}

// parse: what Parse answers within a Guard, and how it failed.
func parse(text string) (stream.Stream, api.Errno) {
	var s stream.Stream
	e := pack.Guard(func() { s = stream.Parse(text) })
	return s, e
}

// refused: Parse fails so, and answers nothing.
func refused(t *testing.T, what, text string, want api.Errno) {
	t.Helper()
	if s, e := parse(text); e != want || !same(s, stream.Stream{}) {
		t.Errorf("%s: Parse of %d bytes: size %d, %d items, %d, not %d", what, len(text), s.Size, len(s.Items), e, want)
	}
}

// there: a stream may be; its bytes, and the stream out of them.
func there(t *testing.T, s stream.Stream) {
	t.Helper()
	was := slices.Clone(s.Items)
	if e := s.Check(); e != api.OK {
		t.Fatalf("Check of size %d, %d items: %d", s.Size, len(s.Items), e)
	}
	text := s.Bytes()
	if text != sealed(body(s)) {
		t.Fatalf("Bytes of size %d, %d items: %d bytes: % x", s.Size, len(s.Items), len(text), text[:77])
	}
	if got, e := parse(text); e != api.OK || !same(got, s) {
		t.Fatalf("Parse of the bytes of size %d, %d items: size %d, %d items, %d", s.Size, len(s.Items), got.Size, len(got.Items), e)
	}
	if !slices.Equal(s.Items, was) {
		t.Fatal("the items are others")
	}
}
