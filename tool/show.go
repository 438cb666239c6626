package tool

import (
	"strings"

	"stereobate/api"
	"stereobate/script"
)

// names are the errors' words, by their numbers.
var names = [...]string{
	"ok", "form", "end", "big", "arg", "none", "range", "only", "space", "clash", "base", "sum", "cut", "full", "size", "kind",
}

// Name: an error's word.
func Name(e api.Errno) string {
	if e < 0 || int(e) >= len(names) {
		return "other"
	}
	return names[e]
}

// Show: a sector's bytes up to the noughts at its end, as they are, or, where no word may have them, ?.
func Show(sector string) string {
	shown := []byte(strings.TrimRight(sector, "\x00"))
	for i := range shown {
		if !script.Word(sector[i : i+1]) {
			shown[i] = '?'
		}
	}
	return string(shown)
}
