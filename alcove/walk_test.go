package alcove_test

import (
	"fmt"
	"iter"
	"math"
	"math/rand"
	"slices"
	"strings"
	"testing"

	"alcove/alcove"
	"alcove/api"
)

// laid: a map of these keys, each with its own text as its value.
func laid[K any](t *testing.T, o alcove.Order[K], engine int, keys ...K) *alcove.Map[K, string] {
	t.Helper()
	m := fresh[K, string](t, o, engine)
	for _, k := range keys {
		m.Put(k, fmt.Sprint("v", k))
	}
	return m
}

// walked: the keys that a walk gives, whose values are those of laid.
func walked[K any](t *testing.T, s iter.Seq2[K, string]) []K {
	t.Helper()
	l := []K{}
	for k, v := range s {
		if v != fmt.Sprint("v", k) {
			t.Errorf("P8: the value of %v is %q", k, v)
		}
		l = append(l, k)
	}
	return l
}

// gives: a walk gives these keys, as often as it is begun.
func gives[K any](t *testing.T, name string, s iter.Seq2[K, string], want ...K) {
	t.Helper()
	for range 3 {
		if got := walked(t, s); fmt.Sprint(got) != fmt.Sprint(want) {
			t.Errorf("P8: %s: %v, want %v", name, got, want)
		}
	}
}

func TestRangeEnds(t *testing.T) {
	const least, most = math.MinInt, math.MaxInt
	for engine := range 2 {
		up := laid(t, alcove.Ints(), engine, 30, 10, most, 40, least, 20)
		down := laid(t, alcove.Turned(alcove.Ints()), engine, 30, 10, most, 40, least, 20)
		for _, c := range []struct {
			from, to int
			want     []int
		}{
			{10, 30, []int{10, 20}}, {11, 40, []int{20, 30}}, {9, 31, []int{10, 20, 30}}, {10, 11, []int{10}},
			{11, 20, nil}, {12, 18, nil}, {20, 20, nil}, {15, 15, nil}, {30, 10, nil}, {35, 15, nil}, {most, least, nil},
			{least, least, nil}, {least, least + 1, []int{least}}, {least + 1, 10, nil}, {41, most, nil}, {most, most, nil},
			{least, most, []int{least, 10, 20, 30, 40}},
		} {
			gives(t, fmt.Sprintf("Range(%d, %d)", c.from, c.to), up.Range(c.from, c.to), c.want...)
		}
		gives(t, "Back", up.Back(), most, 40, 30, 20, 10, least)
		for _, c := range []struct {
			from, to int
			want     []int
		}{
			{30, 10, []int{30, 20}}, {39, 10, []int{30, 20}}, {31, 9, []int{30, 20, 10}}, {10, 30, nil}, {20, 20, nil},
			{most, least, []int{most, 40, 30, 20, 10}}, {least, most, nil}, {most, most - 1, []int{most}},
		} {
			gives(t, fmt.Sprintf("turned, Range(%d, %d)", c.from, c.to), down.Range(c.from, c.to), c.want...)
		}
		gives(t, "turned, Back", down.Back(), least, 10, 20, 30, 40, most)
		if up.Len() != 6 || down.Len() != 6 {
			t.Error("P2: a walk has changed the map")
		}
	}
}

func TestWalksOfEveryOrder(t *testing.T) {
	none, minus := math.NaN(), math.Copysign(0, -1)
	for engine := range 2 {
		names := laid(t, alcove.Folded(), engine, "b", "C", "a", "D", "é", "\xff")
		gives(t, "Folded", names.Range("B", "d"), "b", "C")
		gives(t, "Folded", names.Range("", "\xfe"), "a", "b", "C", "D", "é")
		gives(t, "Folded", names.Back(), "\xff", "é", "D", "C", "b", "a")
		turned := laid(t, alcove.Turned(alcove.Folded()), engine, "b", "C", "a", "D")
		gives(t, "Folded, turned", turned.Range("c", "A"), "C", "b")
		gives(t, "Folded, turned", turned.Back(), "a", "b", "C", "D")
		texts := laid(t, alcove.Text(), engine, "b", "C", "a", "D", "")
		gives(t, "Text", texts.Range("", "b"), "", "C", "D", "a")
		gives(t, "Text", texts.Range("Ca", "aa"), "D", "a")
		points := laid(t, alcove.Plane(), engine, 2, 1+5i, complex(none, 3), complex(1, none), complex(minus, 1), 2-9i)
		gives(t, "Plane", points.Range(complex(none, none), 2), complex(none, 3), complex(minus, 1), complex(1, none), 1+5i, 2-9i)
		gives(t, "Plane", points.Range(1i, complex(1, none)), complex(minus, 1))
		gives(t, "Plane", points.Back(), 2, 2-9i, 1+5i, complex(1, none), complex(minus, 1), complex(none, 3))
	}
}

func TestWalksOfEmptyMaps(t *testing.T) {
	for engine := range 2 {
		for _, o := range []alcove.Order[int]{alcove.Ints(), alcove.Turned(alcove.Ints())} {
			m := fresh[int, string](t, o, engine)
			up, down, back := m.Range(0, 9), m.Range(9, 0), m.Back()
			gives(t, "Range", up)
			gives(t, "Range", down)
			gives(t, "Back", back)
			m.Put(5, "v5") // the walks were made ahead of it, but are begun behind it
			if got := len(walked(t, up)) + len(walked(t, down)) + len(walked(t, back)); got != 2 {
				t.Errorf("P8: %d keys, want one of one Range, and one of Back", got)
			}
			m.Delete(5)
			gives(t, "Range", up)
			gives(t, "Back", back)
		}
	}
}

// TestLeftEarly: a loop that is left is over; the next one begins anew, and so does one inside another.
func TestLeftEarly(t *testing.T) {
	for engine := range 2 {
		for _, turned := range []bool{false, true} {
			o, from, to := alcove.Ints(), 10, 50
			rising, falling := []int{10, 20, 30, 40}, []int{50, 40, 30, 20, 10}
			if turned {
				o, from, to = alcove.Turned(o), 50, 10
				rising, falling = []int{50, 40, 30, 20}, []int{10, 20, 30, 40, 50}
			}
			m := laid(t, o, engine, 10, 20, 30, 40, 50)
			for name, walk := range map[string]struct {
				over iter.Seq2[int, string]
				want []int
			}{"Range": {m.Range(from, to), rising}, "Back": {m.Back(), falling}} {
				for n := range len(walk.want) {
					var l []int
					for k := range walk.over {
						l = append(l, k)
						if len(l) == n+1 {
							break
						}
					}
					if !slices.Equal(l, walk.want[:n+1]) {
						t.Errorf("P8: %s left at key %d: %v", name, n+1, l)
					}
				}
				for k := range walk.over {
					if k == walk.want[2] {
						break
					}
					gives(t, name+" inside itself", walk.over, walk.want...)
				}
				gives(t, name, walk.over, walk.want...)
			}
		}
	}
}

// TestBodyIsAskedOnceLeft: no walk goes on when its body has said no.
func TestBodyIsAskedOnceLeft(t *testing.T) {
	for engine := range 2 {
		m := laid(t, alcove.Ints(), engine, 10, 20, 30)
		for name, walk := range map[string]iter.Seq2[int, string]{"Range": m.Range(0, 99), "Back": m.Back()} {
			times := 0
			walk(func(int, string) bool {
				times++
				return times < 2
			})
			if times != 2 {
				t.Errorf("P8: %s, left at its second key, gave %d", name, times)
			}
		}
	}
}

// TestBodyChangesTheMap: keys come and go ahead of, at and behind the one that was given last.
func TestBodyChangesTheMap(t *testing.T) {
	type change struct {
		at        int
		gone, put []int
	}
	cases := []struct {
		name string
		does []change
		up   []int // what Range(10, 60) gives of 10, 20, 30, 40, 50, 60
		down []int // what Back gives of them
	}{
		{"nothing", nil, []int{10, 20, 30, 40, 50}, []int{60, 50, 40, 30, 20, 10}},
		{"the given one goes", []change{{at: 30, gone: []int{30}}}, []int{10, 20, 30, 40, 50}, []int{60, 50, 40, 30, 20, 10}},
		{"the given one goes and comes", []change{{30, []int{30}, []int{30}}}, []int{10, 20, 30, 40, 50}, []int{60, 50, 40, 30, 20, 10}},
		{"those beside it go", []change{{at: 30, gone: []int{20, 40}}}, []int{10, 20, 30, 50}, []int{60, 50, 40, 30, 10}},
		{"some come beside it", []change{{at: 30, put: []int{29, 31}}}, []int{10, 20, 30, 31, 40, 50}, []int{60, 50, 40, 30, 29, 20, 10}},
		{"it goes, some come beside it", []change{{30, []int{30}, []int{29, 31}}}, []int{10, 20, 30, 31, 40, 50}, []int{60, 50, 40, 30, 29, 20, 10}},
		{"it goes with those beside it", []change{{at: 30, gone: []int{20, 30, 40}}}, []int{10, 20, 30, 50}, []int{60, 50, 40, 30, 10}},
		{"others come for those beside it", []change{{30, []int{20, 40}, []int{25, 35}}}, []int{10, 20, 30, 35, 50}, []int{60, 50, 40, 30, 25, 10}},
		{"all go", []change{{at: 30, gone: []int{10, 20, 30, 40, 50, 60}}}, []int{10, 20, 30}, []int{60, 50, 40, 30}},
		{"all go, two come", []change{{30, []int{10, 20, 30, 40, 50, 60}, []int{7, 59}}}, []int{10, 20, 30, 59}, []int{60, 50, 40, 30, 7}},
		{"some come at the ends", []change{{at: 10, put: []int{5, 60, 65}}, {at: 50, put: []int{5, 60, 65}}}, []int{10, 20, 30, 40, 50}, []int{60, 50, 40, 30, 20, 10, 5}},
		{"what came goes again", []change{{at: 20, put: []int{25}}, {30, []int{25}, []int{35}}, {at: 40, gone: []int{35, 50}}}, []int{10, 20, 25, 30, 35, 40}, []int{60, 50, 40, 30, 20, 10}},
	}
	for engine := range 2 {
		for _, turned := range []bool{false, true} {
			for _, c := range cases {
				start := func() (*alcove.Map[int, string], int) {
					if turned {
						return laid(t, alcove.Turned(alcove.Ints()), engine, -10, -20, -30, -40, -50, -60), -1
					}
					return laid(t, alcove.Ints(), engine, 10, 20, 30, 40, 50, 60), 1
				}
				walk := func(m *alcove.Map[int, string], sign int, over iter.Seq2[int, string]) (l []int) {
					for k, v := range over {
						if v != fmt.Sprint("v", k) {
							t.Errorf("P8: the value of %d is %q", k, v)
						}
						l = append(l, sign*k)
						for _, d := range c.does {
							if d.at != sign*k {
								continue
							}
							for _, x := range d.gone {
								m.Delete(sign * x)
							}
							for _, x := range d.put {
								m.Put(sign*x, fmt.Sprint("v", sign*x))
							}
						}
					}
					return l
				}
				m, sign := start()
				if got := walk(m, sign, m.Range(sign*10, sign*60)); !slices.Equal(got, c.up) {
					t.Errorf("P8: engine %d, turned %v: %s: Range: %v, want %v", engine, turned, c.name, got, c.up)
				}
				m, sign = start()
				if got := walk(m, sign, m.Back()); !slices.Equal(got, c.down) {
					t.Errorf("P8: engine %d, turned %v: %s: Back: %v, want %v", engine, turned, c.name, got, c.down)
				}
			}
		}
	}
}

// TestBodyChangesSpellingAndValues: a key that is the same as the given one is not given again; values are those of when their key's turn comes.
func TestBodyChangesSpellingAndValues(t *testing.T) {
	for engine := range 2 {
		start := func() *alcove.Map[string, string] { return laid(t, alcove.Folded(), engine, "Ann", "Bob", "Cid") }
		walk := func(m *alcove.Map[string, string], over iter.Seq2[string, string]) string {
			var l []string
			for k, v := range over {
				l = append(l, k+"="+v)
				m.Delete(k)
				m.Put(strings.ToUpper(k), "new")
				m.Put("bob", "other")
			}
			return strings.Join(l, " ")
		}
		m := start()
		if got := walk(m, m.Range("a", "z")); got != "Ann=vAnn Bob=other Cid=vCid" {
			t.Errorf("P8: Range: %s", got)
		}
		m = start()
		if got := walk(m, m.Back()); got != "Cid=vCid Bob=other Ann=vAnn" {
			t.Errorf("P8: Back: %s", got)
		}
		if got := shown(m); got != "ANN:new:true BOB:other:true CID:new:true" {
			t.Errorf("P8: the map is %s", got)
		}
	}
}

// TestBodyOfFullMap: a Put that is refused changes nothing, and a place that a Delete made is taken.
func TestBodyOfFullMap(t *testing.T) {
	for engine := range 2 {
		m := filled(t, 400, engine)
		n := 0
		for k := range m.Range(0, 1000) {
			if k != n {
				t.Fatalf("P8: %d, want %d", k, n)
			}
			if _, _, e := m.Put(1000+n, 0); e != api.ErrFull {
				t.Fatalf("P5: Put in a full map: %d", e)
			}
			m.Delete(k)
			m.Put(-k-1, 0)
			n++
		}
		if n != 400 || m.Len() != 400 || m.Rank(0) != 400 {
			t.Errorf("P8: %d keys were given, %d are there", n, m.Len())
		}
	}
}

// world: keys as numbers 0 to 39, in a map of any order: key(i) is below key(i+1) there.
type world[K any] struct {
	order alcove.Order[K]
	key   func(i int) K
}

// numberOf: what key(i) was made of i.
func (w world[K]) numberOf(k K) int {
	for i := range 40 {
		if fmt.Sprint(w.key(i)) == fmt.Sprint(k) {
			return i
		}
	}
	return -1
}

// beyond: the least number above x that a set has (for a step of 1), or the greatest one below it (for one of -1).
func beyond(set map[int]string, x float64, step int) (int, bool) {
	for i := range 40 {
		n := i
		if step < 0 {
			n = 39 - i
		}
		if _, has := set[n]; has && (float64(n)-x)*float64(step) > 0 {
			return n, true
		}
	}
	return 0, false
}

// stir: changes by chance, in a map and in the set that stands for it.
func stir[K any](chance *rand.Rand, w world[K], m *alcove.Map[K, string], set map[int]string) {
	for range chance.Intn(4) {
		i, v := chance.Intn(40), fmt.Sprint(chance.Intn(1000))
		if chance.Intn(2) == 0 {
			m.Put(w.key(i), v)
			set[i] = v
		} else {
			m.Delete(w.key(i))
			delete(set, i)
		}
	}
}

// walksByChance: walks whose bodies do anything, against what the set says comes next.
func walksByChance[K any](t *testing.T, w world[K], engine int) {
	t.Helper()
	chance := rand.New(rand.NewSource(5))
	m, set := fresh[K, string](t, w.order, engine), map[int]string{}
	for round := range 400 {
		stir(chance, w, m, set)
		from, to, leave := chance.Intn(40), chance.Intn(40), chance.Intn(60)
		x, step, over := float64(from)-0.5, 1, m.Range(w.key(from), w.key(to))
		if round%3 == 0 {
			x, step, over, to = 40, -1, m.Back(), 40
		}
		given := 0
		for k, v := range over {
			n, ok := beyond(set, x, step)
			if !ok || n >= to || w.numberOf(k) != n || v != set[n] {
				t.Fatalf("P8: engine %d, round %d: %v:%s is given behind %v, want %d:%s", engine, round, k, v, x, n, set[n])
			}
			x = float64(n)
			given++
			if given > leave {
				break
			}
			stir(chance, w, m, set)
		}
		if n, ok := beyond(set, x, step); given <= leave && ok && n < to {
			t.Fatalf("P8: engine %d, round %d: nothing is given behind %v, want %d", engine, round, x, n)
		}
	}
}

// cursorsByChance: two cursors, stepped and sent by chance in a map that changes, against where they stand among the numbers.
func cursorsByChance[K any](t *testing.T, w world[K], engine int) {
	t.Helper()
	chance := rand.New(rand.NewSource(6))
	m, set := fresh[K, string](t, w.order, engine), map[int]string{}
	cursors, stands := []*alcove.Cursor[K, string]{m.Cursor(), m.Cursor()}, []float64{-1, -1}
	for step := range 6000 {
		if chance.Intn(3) == 0 {
			stir(chance, w, m, set)
		}
		i, way, call := chance.Intn(2), 1, cursors[0].Next
		switch c := cursors[i]; chance.Intn(9) {
		case 0:
			k := chance.Intn(40)
			c.Seek(w.key(k))
			stands[i] = float64(k) - 0.5
			continue
		case 1, 2, 3, 4:
			call = c.Next
		default:
			way, call = -1, c.Prev
		}
		n, want := beyond(set, stands[i], way)
		k, v, ok := call()
		var none K
		if ok != want || ok && (w.numberOf(k) != n || v != set[n]) || !ok && (fmt.Sprint(k) != fmt.Sprint(none) || v != "") {
			t.Fatalf("P9: engine %d, step %d: from %v on, way %d: %v:%s, %v, want %d:%s, %v", engine, step, stands[i], way, k, v, ok, n, set[n], want)
		}
		if ok {
			stands[i] = float64(n) + float64(way)/2
		}
	}
}

func TestWalksByChance(t *testing.T) {
	number := func(i int) int { return 3*i - 50 }
	text := func(i int) string { return strings.Repeat("é", i/8) + string(rune('p'+i%8)) }
	point := func(i int) complex128 { return complex(float64(i/5), float64(i%5-2)) }
	ints := []world[int]{{alcove.Ints(), number}, {alcove.Turned(alcove.Ints()), func(i int) int { return -number(i) }}}
	texts := []world[string]{{alcove.Text(), text}, {alcove.Turned(alcove.Turned(alcove.Folded())), text}, {alcove.Turned(alcove.Folded()), func(i int) string { return text(39 - i) }}}
	points := []world[complex128]{{alcove.Plane(), point}, {alcove.Turned(alcove.Plane()), func(i int) complex128 { return -point(i) }}}
	for engine := range 2 {
		for _, w := range ints {
			walksByChance(t, w, engine)
			cursorsByChance(t, w, engine)
		}
		for _, w := range texts {
			walksByChance(t, w, engine)
			cursorsByChance(t, w, engine)
		}
		for _, w := range points {
			walksByChance(t, w, engine)
			cursorsByChance(t, w, engine)
		}
	}
}

// TestWhatStaysIsGivenOnce: P12, of walks that are disturbed as much as can be.
func TestWhatStaysIsGivenOnce(t *testing.T) {
	for engine := range 2 {
		chance := rand.New(rand.NewSource(7))
		m := fresh[int, int](t, alcove.Ints(), engine)
		for i := range 100 {
			m.Put(3*i, 0) // they stay
		}
		disturb := func() {
			for range 5 {
				k := 3*chance.Intn(100) + 1 + chance.Intn(2)
				m.Delete(k)
				m.Put(k+chance.Intn(2)*(3-2*(k%3)), 0)
			}
		}
		times := make([]int, 300)
		for k := range m.Range(0, 300) {
			times[k]++
			disturb()
		}
		for k := range m.Back() {
			times[k]++
			disturb()
		}
		c := m.Cursor()
		for k, _, ok := c.Next(); ok; k, _, ok = c.Next() {
			times[k]++
			disturb()
		}
		for k, _, ok := c.Prev(); ok; k, _, ok = c.Prev() {
			times[k]++
			disturb()
		}
		for i := range 100 {
			if times[3*i] != 4 {
				t.Errorf("P12: engine %d: four walks give %d %d times", engine, 3*i, times[3*i])
			}
		}
	}
}

// steps: what a cursor answers to calls that are written down: n and p for Next and Prev, a number for Seek.
func steps(c *alcove.Cursor[int, string], calls ...any) string {
	var l []string
	for _, call := range calls {
		if k, is := call.(int); is {
			c.Seek(k)
			continue
		}
		step := c.Next
		if call == "p" {
			step = c.Prev
		}
		k, v, ok := step()
		switch {
		case ok && v == fmt.Sprint("v", k):
			l = append(l, fmt.Sprint(k))
		case !ok && k == 0 && v == "":
			l = append(l, "-")
		default:
			l = append(l, fmt.Sprintf("%d:%q:%v", k, v, ok))
		}
	}
	return strings.Join(l, " ")
}

// stepped: such calls answer this.
func stepped(t *testing.T, c *alcove.Cursor[int, string], want string, calls ...any) {
	t.Helper()
	if c == nil {
		t.Fatal("P9: there is no cursor")
	}
	if got := steps(c, calls...); got != want {
		t.Errorf("P9: %v: %s, want %s", calls, got, want)
	}
}

// TestCursorExample: P9, by the document's third example.
func TestCursorExample(t *testing.T) {
	for engine := range 2 {
		m := laid(t, alcove.Ints(), engine, 10, 20, 30)
		c := m.Cursor()
		stepped(t, c, "10 20", "n", "n")
		m.Delete(20)
		m.Put(15, "v15")
		m.Put(25, "v25")
		stepped(t, c, "25 25 15", "n", "p", "p")
	}
}

func TestCursorSteps(t *testing.T) {
	const least, most = math.MinInt, math.MaxInt
	for engine := range 2 {
		m := laid(t, alcove.Ints(), engine, 30, 10, 20)
		stepped(t, m.Cursor(), "- - 10 20 30 - -", "p", "p", "n", "n", "n", "n", "n")
		stepped(t, m.Cursor(), "10 20 30 - 30 20 10 - - 10", "n", "n", "n", "n", "p", "p", "p", "p", "p", "n")
		stepped(t, m.Cursor(), "10 10 10 10 20 20 20", "n", "p", "n", "p", 15, "n", "p", "n")
		stepped(t, m.Cursor(), "20 10 20 20 30", 20, "n", 20, "p", 25, "p", "n", "n")
		stepped(t, m.Cursor(), "- 30 10 10 30 - 10", most, "n", "p", least, "n", "p", 31, "p", 10, "p", "n")
		ends := laid(t, alcove.Ints(), engine, least, most)
		stepped(t, ends.Cursor(), fmt.Sprint("- ", least, " ", most, " ", most, " ", least, " -"), least, "p", "n", most, "n", "p", "p", "p")
		turned := laid(t, alcove.Turned(alcove.Ints()), engine, 30, 10, 20)
		stepped(t, turned.Cursor(), "- 30 20 10 - 10", "p", "n", "n", "n", "n", "p")
		stepped(t, turned.Cursor(), "20 30 20 20 10 - 30", 25, "n", 25, "p", 20, "n", "p", 5, "p", 99, "p", "n")
		if m.Len() != 3 || turned.Len() != 3 {
			t.Error("P2: a cursor has changed the map")
		}
	}
}

// TestCursorStays: where it stands does not change with the map, nor by a step that finds nothing.
func TestCursorStays(t *testing.T) {
	for engine := range 2 {
		m := fresh[int, string](t, alcove.Ints(), engine)
		put := func(k int) { m.Put(k, fmt.Sprint("v", k)) }
		start, c := m.Cursor(), m.Cursor()
		stepped(t, c, "- -", "n", "p")
		put(7)
		stepped(t, c, "- 7 -", "p", "n", "n")
		put(5)
		put(6)
		stepped(t, c, "- 7 6", "n", "p", "p") // it stands behind 7, then ahead of 6
		m.Delete(6)
		stepped(t, c, "5 5 7 -", "p", "n", "n", "n")
		m.Delete(7)
		put(8)
		stepped(t, c, "8 8 5 -", "n", "p", "p", "p") // behind 7, which is gone
		put(4)
		put(-4)
		stepped(t, c, "4 -4 -", "p", "p", "p") // ahead of 5
		m.Delete(-4)
		put(-4)
		stepped(t, c, "-4", "n")
		stepped(t, c, "8 -", 6, "n", "n")
		put(9)
		m.Delete(8)
		put(8)
		stepped(t, c, "8 8 9 -", "p", "n", "n", "n")
		put(math.MinInt)
		stepped(t, start, fmt.Sprint("- ", math.MinInt, " -4"), "p", "n", "n")
	}
}

// TestCursorAtSeek: a key that comes where a cursor was sent is behind it, whatever was there.
func TestCursorAtSeek(t *testing.T) {
	for engine := range 2 {
		for _, had := range []bool{false, true} {
			m := laid(t, alcove.Turned(alcove.Ints()), engine, 30, 10)
			c := m.Cursor()
			if had {
				m.Put(20, "v20")
			}
			c.Seek(20)
			m.Delete(20)
			stepped(t, c, "30 30", "p", "n")
			c.Seek(20)
			m.Put(20, "v20")
			stepped(t, c, "20 20 30", "n", "p", "p")
		}
		names := laid(t, alcove.Folded(), engine, "Ann", "Bob")
		c := names.Cursor()
		c.Seek("BOB")
		got := tell3(c.Next()) + tell3(c.Next())
		names.Delete("bob")
		names.Put("bOB", "new")
		got += tell3(c.Next()) + tell3(c.Prev()) + tell3(c.Prev())
		want := told("Bob", "vBob", true) + told("", "", false) + told("", "", false) + told("bOB", "new", true) + told("Ann", "vAnn", true)
		if got != want {
			t.Errorf("P9: Folded: %q, want %q", got, want)
		}
	}
}

// TestCursorsApart: cursors and loops do not move one another, nor those of other maps.
func TestCursorsApart(t *testing.T) {
	for engine := range 2 {
		m, other := laid(t, alcove.Ints(), engine, 10, 20, 30), laid(t, alcove.Ints(), 1-engine, 1, 2, 3)
		a, b, c := m.Cursor(), m.Cursor(), other.Cursor()
		stepped(t, a, "10 20", "n", "n")
		stepped(t, b, "10", "n")
		stepped(t, c, "3 -", 3, "n", "n")
		for k := range m.Range(0, 30) {
			stepped(t, b, fmt.Sprint(k+10), "n")
		}
		for range m.Back() {
			other.Delete(2)
		}
		stepped(t, a, "30", "n")
		stepped(t, b, "- 30", "n", "p")
		stepped(t, c, "3 1 -", "p", "p", "p")
	}
}

// TestWalksAnswerAlike: P2: the same calls give the same walks, and the same comparisons.
func TestWalksAnswerAlike(t *testing.T) {
	play := func(engine int) (string, int) {
		m := filled(t, 200, engine)
		var l []int
		c := m.Cursor()
		for k := range m.Range(20, 180) {
			m.Delete(k + k%3)
			x, _, _ := c.Next()
			l = append(l, k, x)
		}
		for k := range m.Back() {
			m.Put(k-300, k)
			x, _, _ := c.Prev()
			l = append(l, k, x)
			if len(l) > 600 {
				break
			}
		}
		return fmt.Sprint(l, shown(m)), m.Compared()
	}
	for engine := range 2 {
		first, compared := play(engine)
		again, often := play(engine)
		other, _ := play(1 - engine)
		if first != again || first != other || compared != often {
			t.Errorf("P2: engine %d: the same calls are answered in two ways", engine)
		}
	}
}
