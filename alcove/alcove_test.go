package alcove_test

import (
	"cmp"
	"fmt"
	"math"
	"math/bits"
	"math/rand"
	"slices"
	"strings"
	"testing"

	"alcove/alcove"
	"alcove/api"
)

// fresh: an empty map.
func fresh[K, V any](t *testing.T, o alcove.Order[K], engine int) *alcove.Map[K, V] {
	t.Helper()
	m, e := alcove.New[K, V](o, engine)
	if m == nil || e != api.OK {
		t.Fatalf("P4: New with the engine %d: %d", engine, e)
	}
	return m
}

// filled: a map of the numbers below n, each with itself as its value.
func filled(t *testing.T, n, engine int) *alcove.Map[int, int] {
	t.Helper()
	m := fresh[int, int](t, alcove.Ints(), engine)
	for i := range n {
		if was, had, e := m.Put(i, i); was != 0 || had || e != api.OK {
			t.Fatalf("P5: Put(%d) = %d, %v, %d", i, was, had, e)
		}
	}
	return m
}

// shown: all keys and values, by rank.
func shown[K, V any](m *alcove.Map[K, V]) string {
	var l []string
	for i := range m.Len() {
		k, v, ok := m.At(i)
		l = append(l, fmt.Sprintf("%v:%v:%v", k, v, ok))
	}
	return strings.Join(l, " ")
}

// told: the answers of a call, as a text.
func told(answers ...any) string { return fmt.Sprintln(answers...) }

func tell2[V any](v V, ok bool) string                 { return told(v, ok) }
func tell3[A, B, C any](a A, b B, c C) string          { return told(a, b, c) }
func sided[K any](f func(a, b K) int) func(a, b K) int { return func(a, b K) int { return f(b, a) } }

// plain is a map as simple as can be: a list of items, in order.
type plain[K any] struct {
	compare func(a, b K) int
	keys    []K
	values  []string
}

func (p *plain[K]) rank(k K) int {
	n := 0
	for _, x := range p.keys {
		if p.compare(x, k) < 0 {
			n++
		}
	}
	return n
}

func (p *plain[K]) has(i int, k K) bool { return i < len(p.keys) && p.compare(p.keys[i], k) == 0 }

func (p *plain[K]) at(i int) string {
	var k K
	if i < 0 || i >= len(p.keys) {
		return told(k, "", false)
	}
	return told(p.keys[i], p.values[i], true)
}

func (p *plain[K]) put(k K, v string) string {
	i := p.rank(k)
	if p.has(i, k) {
		was := p.values[i]
		p.values[i] = v
		return told(was, true, api.OK)
	}
	if len(p.keys) == 400 {
		return told("", false, api.ErrFull)
	}
	p.keys, p.values = slices.Insert(p.keys, i, k), slices.Insert(p.values, i, v)
	return told("", false, api.OK)
}

func (p *plain[K]) get(k K) string {
	if i := p.rank(k); p.has(i, k) {
		return told(p.values[i], true)
	}
	return told("", false)
}

func (p *plain[K]) remove(k K) string {
	answer := p.get(k)
	if i := p.rank(k); p.has(i, k) {
		p.keys, p.values = slices.Delete(p.keys, i, i+1), slices.Delete(p.values, i, i+1)
	}
	return answer
}

func (p *plain[K]) floor(k K) string {
	i := p.rank(k)
	if !p.has(i, k) {
		i--
	}
	return p.at(i)
}

// against: calls by chance on a map of each engine and on the plain one: all answer alike.
func against[K any](t *testing.T, o alcove.Order[K], compare func(a, b K) int, key func(*rand.Rand) K) {
	t.Helper()
	chance := rand.New(rand.NewSource(3))
	want := &plain[K]{compare: compare}
	maps := []*alcove.Map[K, string]{fresh[K, string](t, o, api.Tree), fresh[K, string](t, o, api.Skip)}
	for step := range 4500 {
		k, i, v, call := key(chance), chance.Intn(max(len(want.keys), 1)+2)-1, fmt.Sprint("v", step), chance.Intn(10)
		if step > 3000 && call < 3 {
			call = 4 // first many come, then many go
		}
		var right string
		var got []string
		for n, m := range maps {
			var answer, expected string
			switch call {
			case 0, 1, 2, 3:
				answer = tell3(m.Put(k, v))
				if n == 0 {
					expected = want.put(k, v)
				}
			case 4, 5:
				answer = tell2(m.Delete(k))
				if n == 0 {
					expected = want.remove(k)
				}
			case 6:
				answer, expected = tell2(m.Get(k)), want.get(k)
			case 7:
				answer, expected = told(m.Rank(k), m.Len()), told(want.rank(k), len(want.keys))
			case 8:
				answer, expected = tell3(m.Floor(k))+tell3(m.Ceiling(k)), want.floor(k)+want.at(want.rank(k))
			case 9:
				answer, expected = tell3(m.At(i)), want.at(i)
			}
			if n == 0 {
				right = expected
			}
			got = append(got, answer)
		}
		if got[0] != right || got[1] != right {
			t.Fatalf("step %d, call %d, key %#v, place %d: %q, want %q", step, call, k, i, got, right)
		}
	}
}

func compareText(a, b string) int { return slices.Compare([]rune(a), []rune(b)) } // of texts that are UTF-8

func comparePlane(a, b complex128) int {
	below := func(x, y float64) bool { return x < y || x != x && y == y }
	switch {
	case below(real(a), real(b)):
		return -1
	case below(real(b), real(a)):
		return 1
	case below(imag(a), imag(b)):
		return -1
	case below(imag(b), imag(a)):
		return 1
	}
	return 0
}

func TestAllCallsAgainstAPlainMap(t *testing.T) {
	number := func(r *rand.Rand) int { return r.Intn(1000) - 500 }
	text := func(r *rand.Rand) string {
		l := make([]rune, r.Intn(4))
		for i := range l {
			l[i] = []rune("aAbBzZ\ufffdéÉ😀")[r.Intn(10)]
		}
		return string(l)
	}
	point := func(r *rand.Rand) complex128 {
		parts := []float64{math.NaN(), math.Inf(-1), -2, -1, math.Copysign(0, -1), 0, 1, 2, 3, math.Inf(1)}
		return complex(parts[r.Intn(10)], parts[r.Intn(10)])
	}
	folded := func(a, b string) int {
		small := func(r rune) rune {
			if r < 128 {
				return []rune(strings.ToLower(string(r)))[0]
			}
			return r
		}
		return compareText(strings.Map(small, a), strings.Map(small, b))
	}
	against(t, alcove.Ints(), cmp.Compare[int], number)
	against(t, alcove.Turned(alcove.Ints()), sided(cmp.Compare[int]), number)
	against(t, alcove.Text(), compareText, text)
	against(t, alcove.Turned(alcove.Turned(alcove.Text())), compareText, text)
	against(t, alcove.Folded(), folded, text)
	against(t, alcove.Turned(alcove.Folded()), sided(folded), text)
	against(t, alcove.Plane(), comparePlane, point)
	against(t, alcove.Turned(alcove.Plane()), sided(comparePlane), point)
}

// TestNothingWithFalse: P1, on maps that are empty, have one key, or are full.
func TestNothingWithFalse(t *testing.T) {
	for engine := range 2 {
		for _, n := range []int{0, 1, 400} {
			m := fresh[int, string](t, alcove.Ints(), engine)
			for i := range n {
				m.Put(2*i, "v")
			}
			before := shown(m)
			for _, k := range []int{math.MinInt, -1, 1, 2*n + 1, math.MaxInt} {
				if got := tell2(m.Get(k)) + tell2(m.Delete(k)); got != told("", false)+told("", false) {
					t.Errorf("P1: %d keys: Get and Delete of %d: %q", n, k, got)
				}
			}
			for _, i := range []int{math.MinInt, -1, n, n + 1, math.MaxInt} {
				if got := tell3(m.At(i)); got != told(0, "", false) {
					t.Errorf("P1: %d keys: At(%d) = %q", n, i, got)
				}
			}
			if got := tell3(m.Floor(-1)) + tell3(m.Ceiling(2*n)); got != told(0, "", false)+told(0, "", false) {
				t.Errorf("P1: %d keys: Floor and Ceiling: %q", n, got)
			}
			if shown(m) != before || m.Len() != n {
				t.Errorf("P1: the map is %s, want %s", shown(m), before)
			}
		}
	}
}

// TestOnlyOwnCallsCount: P2: what a map answers, Compared too, is the same each time, whatever is done with others.
func TestOnlyOwnCallsCount(t *testing.T) {
	for engine := range 2 {
		play := func(meanwhile func(k int)) []string {
			m := fresh[int, int](t, alcove.Ints(), engine)
			chance := rand.New(rand.NewSource(4))
			var l []string
			for step := range 1500 {
				k := chance.Intn(500)
				if chance.Intn(3) > 0 {
					l = append(l, tell3(m.Put(k, step)))
				} else {
					l = append(l, tell2(m.Delete(k)))
				}
				meanwhile(k)
				l = append(l, told(m.Len(), m.Compared()))
			}
			return append(l, shown(m))
		}
		others := []*alcove.Map[int, int]{filled(t, 300, api.Tree), filled(t, 300, api.Skip)}
		alone := play(func(int) {})
		among := play(func(k int) {
			for _, o := range others {
				o.Delete(k)
				o.Put(k/2, -1)
			}
		})
		if !slices.Equal(alone, among) {
			t.Errorf("P2: engine %d: the same calls are answered in two ways", engine)
		}
	}
}

// TestOrders: P3, by what the document's first example says, and by bytes that are no UTF-8.
func TestOrders(t *testing.T) {
	below := func(o alcove.Order[string], a, b string) {
		t.Helper()
		for engine := range 2 {
			m, back := fresh[string, int](t, o, engine), fresh[string, int](t, alcove.Turned(o), engine)
			m.Put(a, 1)
			back.Put(a, 1)
			if m.Rank(b) != 1 || back.Rank(b) != 0 {
				t.Errorf("P3: %q is not below %q", a, b)
			}
			if _, _, ok := back.Ceiling(b); !ok {
				t.Errorf("P3: turned, %q is not above %q", a, b)
			}
		}
	}
	for _, pair := range [][2]string{{"a", "b"}, {"Z", "a"}, {"z", "é"}, {"é", "\xff"}, {"", "a"}, {"a", "aa"}, {"\ufffd", "\xfd"}, {"\U0010ffff", "\x80"}, {"\x80", "\xc3"}, {"\xc3a", "\xc3é"}, {"é", "\xc3"}} {
		below(alcove.Text(), pair[0], pair[1])
	}
	for _, pair := range [][2]string{{"a", "Z"}, {"A", "z"}, {"A", "b"}, {"Z", "é"}, {"É", "é"}, {"_", "A"}, {"é", "\xff"}} {
		below(alcove.Folded(), pair[0], pair[1])
	}
	for engine := range 2 {
		m := fresh[complex128, string](t, alcove.Turned(alcove.Plane()), engine)
		for _, p := range []complex128{2 - 9i, complex(math.NaN(), 0), 1 + 5i, complex(1, math.NaN()), 2, 0} {
			m.Put(p, "")
		}
		if got, want := shown(m), "(2+0i)::true (2-9i)::true (1+5i)::true (1+NaNi)::true (0+0i)::true (NaN+0i)::true"; got != want {
			t.Errorf("P3: the map is %s, want %s", got, want)
		}
	}
}

func TestNew(t *testing.T) {
	for _, engine := range []int{math.MinInt, -1, 2, 3, 256, 1 << 32, math.MaxInt} {
		if m, e := alcove.New[string, int](alcove.Text(), engine); m != nil || e != api.ErrEngine {
			t.Errorf("P4: New with the engine %d: %v, %d", engine, m, e)
		}
	}
	for engine := range 2 {
		if m := fresh[string, int](t, alcove.Text(), engine); m.Len() != 0 || m.Compared() != 0 || m.Rank("a") != 0 {
			t.Errorf("P4: a new map has %d keys, %d comparisons", m.Len(), m.Compared())
		}
	}
}

// TestFirstSpellingStays: P5, by the document's second example.
func TestFirstSpellingStays(t *testing.T) {
	for engine := range 2 {
		m := fresh[string, int](t, alcove.Folded(), engine)
		if got := tell3(m.Put("Ann", 1)) + tell3(m.Put("ANN", 2)) + tell3(m.At(0)); got != told(0, false, 0)+told(1, true, 0)+told("Ann", 2, true) {
			t.Errorf("P5: %q", got)
		}
		if got := tell2(m.Delete("aNN")) + tell3(m.Put("ann", 3)) + tell3(m.Ceiling("ANN")); got != told(2, true)+told(0, false, 0)+told("ann", 3, true) {
			t.Errorf("P5: behind Delete: %q", got)
		}
		p := fresh[complex128, int](t, alcove.Plane(), engine)
		zero := math.Copysign(0, -1)
		p.Put(complex(zero, math.NaN()), 1)
		if got := tell3(p.Put(complex(0, math.NaN()), 2)); got != told(1, true, 0) {
			t.Errorf("P5: 0 and -0: %q", got)
		}
		if k, _, _ := p.At(0); !math.Signbit(real(k)) {
			t.Error("P5: -0 has become 0")
		}
	}
}

func TestFull(t *testing.T) {
	for engine := range 2 {
		m := filled(t, 400, engine)
		before := shown(m)
		for _, k := range []int{math.MinInt, -1, 400, math.MaxInt} {
			if got := tell3(m.Put(k, 7)); got != told(0, false, api.ErrFull) {
				t.Errorf("P5: Put(%d) in a full map: %q", k, got)
			}
		}
		if shown(m) != before || m.Len() != 400 {
			t.Error("P1: a Put that was refused has changed the map")
		}
		if got := tell3(m.Put(200, -5)) + tell2(m.Get(200)); got != told(200, true, 0)+told(-5, true) {
			t.Errorf("P5: Put of what is there in a full map: %q", got)
		}
		if got := tell2(m.Delete(0)) + tell3(m.Put(400, 7)) + tell3(m.Put(0, 7)); got != told(0, true)+told(0, false, 0)+told(0, false, api.ErrFull) {
			t.Errorf("P5: Delete makes room for one: %q", got)
		}
	}
}

// TestNeighbours: P6, by the document's third example.
func TestNeighbours(t *testing.T) {
	for engine := range 2 {
		m := fresh[int, string](t, alcove.Ints(), engine)
		for _, k := range []int{20, 30, 10} {
			m.Put(k, fmt.Sprint("v", k))
		}
		got := told(m.Rank(20), m.Rank(25), m.Rank(math.MinInt), m.Rank(math.MaxInt)) + tell3(m.Floor(25)) + tell3(m.Ceiling(25)) + tell3(m.Floor(5)) + tell3(m.Floor(30)) + tell3(m.Ceiling(31)) + tell3(m.At(2))
		want := told(1, 2, 0, 3) + told(20, "v20", true) + told(30, "v30", true) + told(0, "", false) + told(30, "v30", true) + told(0, "", false) + told(30, "v30", true)
		if got != want {
			t.Errorf("P6: %q, want %q", got, want)
		}
	}
}

// looked: the calls of P7, one by one: each on a map that has keys compares, and with a tree not too often.
func looked(t *testing.T, m *alcove.Map[int, int], engine, k int) {
	t.Helper()
	calls := []func(){
		func() { m.Get(k) }, func() { m.Rank(k) }, func() { m.Floor(k) }, func() { m.Ceiling(k) },
		func() { m.Delete(k) }, func() { m.Put(k, 0) }, func() { m.Put(k, 1) }, func() { m.Delete(k) },
	}
	for i, call := range calls {
		n, before := m.Len(), m.Compared()
		call()
		times := m.Compared() - before
		if n > 0 && times < 1 || engine == api.Tree && times > api.Looks*bits.Len(uint(n+1)) {
			t.Fatalf("P7: engine %d, call %d of %d: %d comparisons, with %d keys", engine, i, k, times, n)
		}
	}
	before := m.Compared()
	m.At(m.Len() / 2)
	m.At(-1)
	m.Len()
	if m.Compared() != before {
		t.Fatal("P7: At and Len compare keys")
	}
}

func TestCompared(t *testing.T) {
	ways := []func(i int) int{
		func(i int) int { return i },
		func(i int) int { return -i },
		func(i int) int { return i * (i%2*2 - 1) },
		func(i int) int { return i * 167 % 401 },
	}
	for engine := range 2 {
		for _, way := range ways {
			m := fresh[int, int](t, alcove.Ints(), engine)
			for i := range 400 {
				looked(t, m, engine, 2*way(i)+1) // between the keys
				m.Put(2*way(i), i)
			}
			for _, k := range []int{math.MinInt, 1, math.MaxInt} {
				looked(t, m, engine, k)
			}
			for i := range 400 {
				m.Put(2*way(i), i)
				looked(t, m, engine, 2*way(i)) // gone behind this
			}
			if m.Len() != 0 {
				t.Fatalf("P5: %d keys are left", m.Len())
			}
		}
	}
}
