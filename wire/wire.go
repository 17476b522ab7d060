// Package wire: see ../../shared/doc/01-wire.md.
package wire

import (
	"strings"

	"yokefellow/api"
	"yokefellow/bounds"
)

// The sign of a number n stands at n+1, so that -1 has one, too.
const signs = "-0123456789"

const textLength = 6

// Nodes is a power of two, so a mask brings negative numbers into 0 to 3 as well; % would leave them negative.
const nodeMask = api.Nodes - 1

// Good is what is wrong with a word.
func Good(w api.Word) api.Errno {
	switch {
	case !bounds.Within(w.Kind, api.Propose, api.Promise):
		return api.ErrKind
	case !inBounds(w):
		return api.ErrRange
	case w.Kind != api.Propose && w.Valid != 0:
		return api.ErrForm
	}
	return api.OK
}

// Encode is a word as six signs: a minus is -1.
func Encode(w api.Word) (string, api.Errno) {
	if e := Good(w); e != api.OK {
		return "", e
	}
	text := make([]byte, 0, textLength)
	for _, n := range [textLength]int{w.Kind, w.From, w.Height, w.Round, w.Value, w.Valid} {
		text = append(text, signs[n+1])
	}
	return string(text), api.OK
}

// Decode is the word of a text.
func Decode(s string) (api.Word, api.Errno) {
	if len(s) != textLength {
		return api.Word{}, api.ErrForm
	}
	var n [textLength]int
	for i := range n {
		at := strings.IndexByte(signs, s[i])
		if at < 0 {
			return api.Word{}, api.ErrForm
		}
		n[i] = at - 1
	}
	w := api.Word{Kind: n[0], From: n[1], Height: n[2], Round: n[3], Value: n[4], Valid: n[5]}
	// Signs that make no good word are no word's text, whatever is wrong with them.
	if Good(w) != api.OK {
		return api.Word{}, api.ErrForm
	}
	return w, api.OK
}

// Leader is who may propose in a round of a height.
func Leader(height, round int) int {
	// Both are cut ahead of the sum, so that it stays small at all numbers.
	return (height&nodeMask + round&nodeMask) & nodeMask
}

func inBounds(w api.Word) bool {
	if !bounds.Node(w.From) || !bounds.Height(w.Height) || !bounds.Round(w.Round) {
		return false
	}
	if w.Kind == api.Propose {
		return bounds.Value(w.Value) && bounds.Within(w.Valid, -1, w.Round-1)
	}
	return bounds.Within(w.Value, 0, api.Values)
}
