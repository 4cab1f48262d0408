package alcove

import (
	"cmp"
	"math/rand"
	"slices"
	"testing"

	"alcove/api"
	"alcove/skip"
	"alcove/tree"
)

// TestRows: both engines, by place, against a list; keys are even, so that odd ones are sought in vain.
func TestRows(t *testing.T) {
	type item struct{ k, v int }
	for name, items := range map[string]row[int, int]{"tree": tree.New[int, int](), "skip": skip.New[int, int]()} {
		chance := rand.New(rand.NewSource(1))
		var want []item
		for step := range 4000 {
			k := 2 * chance.Intn(300)
			i, there := slices.BinarySearchFunc(want, k, func(a item, k int) int { return cmp.Compare(a.k, k) })
			if got, same := items.Find(func(key int) int { return cmp.Compare(k, key) }); got != i || same != there {
				t.Fatalf("%s: Find(%d) = %d, %v, want %d, %v", name, k, got, same, i, there)
			}
			switch {
			case !there:
				items.Insert(i, k, step)
				want = slices.Insert(want, i, item{k, step})
			case step%3 == 0:
				items.Set(i, step)
				want[i].v = step
			default:
				items.Remove(i)
				want = slices.Delete(want, i, i+1)
			}
			if items.Len() != len(want) {
				t.Fatalf("%s: Len %d, want %d", name, items.Len(), len(want))
			}
		}
		for i, w := range want {
			if k, v := items.At(i); k != w.k || v != w.v {
				t.Errorf("%s: At(%d) = %d, %d, want %d, %d", name, i, k, v, w.k, w.v)
			}
			if got, same := items.Find(func(key int) int { return cmp.Compare(w.k+1, key) }); got != i+1 || same {
				t.Errorf("%s: Find(%d) = %d, %v, want %d, false", name, w.k+1, got, same, i+1)
			}
		}
	}
}

// counting is the rule of numbers, with a count of its own.
type counting struct{ calls *int }

func (c counting) Compare(a, b int) int {
	*c.calls++
	return cmp.Compare(a, b)
}

// walkAbout: some steps of each kind of walk.
func walkAbout(m *Map[int, int], k int) {
	for x := range m.Range(k, k+20) {
		m.Delete(x + 1)
	}
	for x := range m.Back() {
		if x < 570 {
			break
		}
	}
	c := m.Cursor()
	c.Next()
	c.Prev()
	c.Seek(k)
	c.Prev()
	c.Next()
}

// TestComparedIsWhatWasCompared: neither more nor less is told than was done, at any call.
func TestComparedIsWhatWasCompared(t *testing.T) {
	for engine := range 2 {
		calls := 0
		m, _ := New[int, int](Order[int]{rule: counting{&calls}}, engine)
		chance := rand.New(rand.NewSource(2))
		for step := range 3000 {
			k := chance.Intn(600)
			switch step % 7 {
			case 0:
				m.Get(k)
			case 1:
				m.Rank(k)
			case 2:
				m.Floor(k)
			case 3:
				m.Ceiling(k)
			case 4:
				m.Delete(k)
			default:
				m.Put(k, step)
			}
			m.At(k)
			m.Len()
			walkAbout(m, k)
			if m.Compared() != calls {
				t.Fatalf("P7: engine %d, step %d: Compared %d, want %d", engine, step, m.Compared(), calls)
			}
		}
	}
}

// TestSeveralCountWhatTheyCompare: a comparison counts in every map that the call is on, once; in no map that is made.
func TestSeveralCountWhatTheyCompare(t *testing.T) {
	for engines := range 4 {
		calls := 0
		o := Order[int]{rule: counting{&calls}}
		a, _ := New[int, int](o, engines%2)
		b, _ := New[int, int](o, engines/2)
		for i := range 100 {
			a.Put(3*i, i)
			b.Put(5*i, i)
		}
		counted := func(name string, maps []*Map[int, int], call func()) {
			t.Helper()
			a.compared, b.compared, calls = 0, 0, 0
			call()
			for i, m := range []*Map[int, int]{a, b} {
				want := 0
				if slices.Contains(maps, m) {
					want = calls
				}
				if m.Compared() != want || calls == 0 {
					t.Errorf("P7: %s: map %d: Compared %d, want %d", name, i, m.Compared(), want)
				}
			}
		}
		first, both := []*Map[int, int]{a}, []*Map[int, int]{a, b}
		left := func(x, y int) int { return x }
		counted("Split", first, func() { a.Split(150) })
		counted("Merge", both, func() { Merge(a, b, left) })
		counted("Common", both, func() { Common(a, b) })
		counted("Without", both, func() { Without(a, b) })
		counted("Merge with itself", first, func() { Merge(a, a, left) })
		counted("Without itself", first, func() { Without(a, a) })
	}
}

// TestEngineOfMadeMaps: it is that of the map that was split, or of the first one.
func TestEngineOfMadeMaps(t *testing.T) {
	for engines := range 4 {
		a, _ := New[int, int](Ints(), engines%2)
		b, _ := New[int, int](Ints(), engines/2)
		for i := range 10 {
			a.Put(i, i)
			b.Put(2*i, i)
		}
		low, high := a.Split(5)
		none, all := a.Split(-1)
		m, _ := Merge(a, b, func(x, y int) int { return x })
		c, _ := Common(a, b)
		w, _ := Without(a, b)
		again, rest := m.Split(3)
		for i, made := range []*Map[int, int]{low, high, none, all, m, c, w, again, rest} {
			_, isTree := made.items.(*tree.Tree[int, int])
			if made.engine != a.engine || isTree != (engines%2 == api.Tree) || made.order != Ints() {
				t.Errorf("P10: map %d, of engines %d and %d: engine %d, a tree: %v", i, engines%2, engines/2, made.engine, isTree)
			}
		}
	}
}

// TestSeveralOfNoEngine: nor do the calls on several maps panic, of maps that are none, or of no f.
func TestSeveralOfNoEngine(t *testing.T) {
	refused, _ := New[int, complex128](Ints(), 9)
	sound, _ := New[int, complex128](Ints(), api.Skip)
	sound.Put(1, 2i)
	add := func(x, y complex128) complex128 { return x + y }
	for _, none := range []*Map[int, complex128]{refused, {}} {
		if low, high := none.Split(1); low != nil || high != nil {
			t.Error("Split of no map gives maps")
		}
		if Sum(none, 0, 9) != 0 {
			t.Error("Sum of no map is not 0")
		}
		for _, pair := range [][2]*Map[int, complex128]{{none, none}, {none, sound}, {sound, none}} {
			m, e := Merge(pair[0], pair[1], add)
			c, f := Common(pair[0], pair[1])
			w, g := Without(pair[0], pair[1])
			if m != nil || c != nil || w != nil || e != api.ErrEngine || f != api.ErrEngine || g != api.ErrEngine {
				t.Errorf("of no maps: %v, %d, %v, %d, %v, %d", m, e, c, f, w, g)
			}
		}
	}
	m, e := Merge(sound, sound, nil)
	if e != api.OK || m.Len() != 1 || Sum(m, 0, 9) != 2i {
		t.Errorf("Merge without f: %d", e)
	}
}

// TestOneOrder: orders are told apart by the words that made them.
func TestOneOrder(t *testing.T) {
	orders := []Order[string]{Text(), Folded(), Turned(Text()), Turned(Folded())}
	again := []Order[string]{Turned(Turned(Text())), Turned(Turned(Folded())), Turned(Turned(Turned(Text()))), Turned(Turned(Turned(Folded())))}
	for i, a := range orders {
		for j, b := range again {
			if (a == b) != (i == j) {
				t.Errorf("P3: orders %d and %d: %v", i, j, a == b)
			}
		}
	}
}

// TestMapsOfNoEngine: not even what New answers with an error panics, nor a map that nobody made.
func TestMapsOfNoEngine(t *testing.T) {
	refused, _ := New[int, string](Ints(), 9)
	for _, m := range []*Map[int, string]{refused, {}} {
		if v, had, e := m.Put(1, "a"); v != "" || had || e != api.ErrEngine {
			t.Errorf("Put = %q, %v, %d", v, had, e)
		}
		_, got := m.Get(1)
		_, gone := m.Delete(1)
		_, _, at := m.At(0)
		_, _, low := m.Floor(1)
		_, _, high := m.Ceiling(1)
		if got || gone || at || low || high || m.Len() != 0 || m.Rank(1) != 0 || m.Compared() != 0 {
			t.Error("a map of no engine has something")
		}
		for k := range m.Range(0, 9) {
			t.Errorf("Range gives %d", k)
		}
		for k := range m.Back() {
			t.Errorf("Back gives %d", k)
		}
		for _, c := range []*Cursor[int, string]{m.Cursor(), {}, nil} {
			c.Seek(1)
			_, _, on := c.Next()
			_, _, back := c.Prev()
			if on || back {
				t.Error("a cursor of no map has something")
			}
		}
	}
	m, _ := New[int, string](Turned(Order[int]{}), api.Tree)
	m.Put(1, "a")
	if v, had, e := m.Put(2, "b"); v != "a" || !had || e != api.OK {
		t.Errorf("by an order that nobody made: Put = %q, %v, %d", v, had, e)
	}
}
