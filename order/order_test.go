package order

import (
	"cmp"
	"math"
	"slices"
	"strings"
	"testing"
	"unicode/utf8"
)

// rises: of keys that stand as they should, each pair is told right.
func rises[K any](t *testing.T, r Rule[K], keys ...K) {
	t.Helper()
	for i, a := range keys {
		for j, b := range keys {
			if got := r.Compare(a, b); cmp.Compare(got, 0) != cmp.Compare(i, j) {
				t.Errorf("P3: %T: %#v to %#v: %d", r, a, b, got)
			}
		}
	}
}

func same[K any](t *testing.T, r Rule[K], a, b K) {
	t.Helper()
	if r.Compare(a, b) != 0 || r.Compare(b, a) != 0 {
		t.Errorf("P3: %T: %#v and %#v: %d, %d", r, a, b, r.Compare(a, b), r.Compare(b, a))
	}
}

func TestInts(t *testing.T) {
	rises(t, Ints{}, math.MinInt, math.MinInt+1, -1, 0, 1, math.MaxInt-1, math.MaxInt)
}

func TestText(t *testing.T) {
	rises(t, Texts{}, "", "\x00", "\x00\x00", "@", "A", "Z", "a", "aZ", "aa", "ab", "b", "z", "\x7f", "é", "éa", "€", "\ufffc", "\ufffd", "\ufffda", "\ufffd\ufffd", "\ufffe", "😀", "\U0010ffff",
		"\x80", "\x80\xff", "\xbf", "\xc0\x80", "\xc3", "\xc3a", "\xc3é", "\xc3\xc3", "\xe2", "\xe2\x82", "\xed\xa0\x80", "\xef", "\xef\xbf", "\xf4\x90\x80\x80", "\xff", "\xff\xff")
}

func TestFolded(t *testing.T) {
	rises(t, Texts{Folded: true}, "", "@", "[", "`", "A", "aA", "ab", "Ac", "b", "Z", "{", "É", "é", "\xff")
	same(t, Texts{Folded: true}, "AZaz", "azAZ")
	same(t, Texts{Folded: true}, "\xffA\ufffd", "\xffa\ufffd")
	for r := range rune(1 << 12) {
		if low := strings.ToLower(string(r)); low != string(r) && r > 'Z' && (Texts{Folded: true}).Compare(low, string(r)) == 0 {
			t.Errorf("P3: %q and %q are the same", r, low)
		}
	}
}

// counts: what a text counts by the words of the document: where a prefix is the UTF-8 of just one code point, that, else the byte.
func counts(s string, folded bool) []int {
	var l []int
	for len(s) > 0 {
		number, width := 1114112+int(s[0]), 1
		for w := 1; w <= min(4, len(s)); w++ {
			if utf8.ValidString(s[:w]) {
				number, width = int([]rune(s[:w])[0]), w
				break
			}
		}
		if folded && number >= 65 && number <= 90 {
			number += 32
		}
		l = append(l, number)
		s = s[width:]
	}
	return l
}

func TestTextsByTheirNumbers(t *testing.T) {
	pieces := []string{"", "A", "a", "Z", "z", "@", "[", "\x80", "\xa9", "\xbd", "\xbf", "\xc3", "\xe2", "\xed", "\xa0", "\xef", "\xf0", "\x90", "\xf4", "\xff", "é", "\ufffd", "\U0010ffff"}
	var texts []string
	for _, a := range pieces {
		for _, b := range pieces {
			for _, c := range []string{"", "\xbd", "a"} {
				texts = append(texts, a+b+c)
			}
		}
	}
	for _, folded := range []bool{false, true} {
		var numbers [][]int
		for _, a := range texts {
			numbers = append(numbers, counts(a, folded))
		}
		for i, a := range texts {
			for j, b := range texts {
				if got, want := (Texts{folded}).Compare(a, b), slices.Compare(numbers[i], numbers[j]); got != want {
					t.Fatalf("P3: folded %v: %q to %q: %d, want %d", folded, a, b, got, want)
				}
			}
		}
	}
}

func TestPlane(t *testing.T) {
	nan, inf, small := math.NaN(), math.Inf(1), math.SmallestNonzeroFloat64
	parts := []float64{nan, -inf, -math.MaxFloat64, -1, -small, 0, small, 1, math.MaxFloat64, inf}
	var points []complex128
	for _, re := range parts {
		for _, im := range parts {
			points = append(points, complex(re, im))
		}
	}
	rises(t, Plane{}, points...)
	rises(t, Plane{}, 1+5i, 2-9i, 2)
	zero := math.Copysign(0, -1)
	for _, p := range []complex128{complex(zero, 0), complex(0, zero), complex(zero, zero)} {
		same(t, Plane{}, 0, p)
	}
	other := math.Float64frombits(0xfff8000000000123)
	same(t, Plane{}, complex(nan, 1), complex(other, 1))
	same(t, Plane{}, complex(1, nan), complex(1, other))
}

// TestRulesByThemselves: which rule it is can be told by ==.
func TestRulesByThemselves(t *testing.T) {
	var text, folded Rule[string] = Texts{}, Texts{Folded: true}
	if text == folded || text != Rule[string](Texts{}) || folded != Rule[string](Texts{Folded: true}) {
		t.Error("rules of texts are not told apart")
	}
}
