// Package seal is what sectors have in common whose last bytes are the sum (layer 2) of those ahead: an
// extent's head (layer 11), a node (layer 12), a catalog's entry (layer 15). It calls layers 2 and 3.
package seal

import (
	"stereobate/api"
	"stereobate/crc"
	"stereobate/pack"
)

const (
	sumLen = 4
	room   = api.SectorLen - sumLen // bytes ahead of the sum
)

// Close: noughts behind what was put, and the sum; ErrBig: there is no room.
func Close(o *pack.Out) string {
	s := o.Fill(room).Bytes()
	return o.Num(uint64(crc.Sum(s)), sumLen).Bytes()
}

// Open: what stands ahead of the sum, noughts and all; ErrEnd: it is too short; ErrSum: the sum is another
// one; ErrForm: something stands behind it.
func Open(s string) *pack.In {
	in := pack.Read(s)
	text := in.Text(room)
	if in.Num(sumLen) != uint64(crc.Sum(text)) {
		pack.Fail(api.ErrSum)
	}
	in.Done()
	return pack.Read(text)
}
