// Package order: the rules by which keys stand below one another.
package order

import (
	"cmp"
	"strings"
	"unicode/utf8"
)

// Rule tells how two keys stand: below 0, if a is below b; above 0, if a is above b; 0, if they are the same.
// Rules are small values without pointers, so that two of them can be held against each other by ==.
type Rule[K any] interface {
	Compare(a, b K) int
}

// Ints is the rule of numbers, by their size.
type Ints struct{}

// Compare is that of Rule.
func (Ints) Compare(a, b int) int { return cmp.Compare(a, b) }

// Texts is the rule of texts, rune by rune.
type Texts struct {
	Folded bool // A to Z count as a to z
}

// Compare is that of Rule.
func (t Texts) Compare(a, b string) int {
	rest := b
	for i, r := range a {
		if rest == "" {
			return 1
		}
		s, width := utf8.DecodeRuneInString(rest)
		if side := cmp.Compare(t.number(r, a[i:]), t.number(s, rest)); side != 0 {
			return side
		}
		rest = rest[width:]
	}
	return -min(len(rest), 1)
}

// number tells what the rune r, with which text begins, counts.
func (t Texts) number(r rune, text string) rune {
	// The language reads a byte that is no UTF-8 as U+FFFD, which may as well stand there in full.
	if r == utf8.RuneError && !strings.HasPrefix(text, string(utf8.RuneError)) {
		return utf8.MaxRune + 1 + rune(text[0])
	}
	if t.Folded && 'A' <= r && r <= 'Z' {
		return r - 'A' + 'a'
	}
	return r
}

// Plane is the rule of complex numbers, by real parts, then by imaginary parts.
type Plane struct{}

// Compare is that of Rule. The library's cmp has just what is asked of parts: one that is no number is below all others and the same as itself, and 0 is -0.
func (Plane) Compare(a, b complex128) int {
	if side := cmp.Compare(real(a), real(b)); side != 0 {
		return side
	}
	return cmp.Compare(imag(a), imag(b))
}
