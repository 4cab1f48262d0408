package alcove_test

import (
	"fmt"
	"math"
	"math/rand"
	"slices"
	"strings"
	"testing"

	"alcove/alcove"
	"alcove/api"
)

// of: a map of the keys that a text lists, each with the value that follows its colon.
func of(t *testing.T, o alcove.Order[string], engine int, list string) *alcove.Map[string, string] {
	t.Helper()
	m := fresh[string, string](t, o, engine)
	for _, item := range strings.Fields(list) {
		k, v, _ := strings.Cut(item, ":")
		m.Put(k, v)
	}
	return m
}

// is: a map has just these items, by rank, by key and by walks.
func is[K, V any](t *testing.T, name string, m *alcove.Map[K, V], want string) {
	t.Helper()
	if m == nil {
		t.Fatalf("%s: there is no map, want %s", name, want)
	}
	var rows, back []string
	for i := range m.Len() {
		k, v, ok := m.At(i)
		rows = append(rows, fmt.Sprintf("%v:%v", k, v))
		if w, had := m.Get(k); !ok || !had || m.Rank(k) != i || fmt.Sprint(w) != fmt.Sprint(v) {
			t.Errorf("P12: %s: At(Rank(%v)) is not %v", name, k, k)
		}
	}
	for k, v := range m.Back() {
		back = append(back, fmt.Sprintf("%v:%v", k, v))
		if len(back) > len(rows) {
			break // a walk of keys that are out of order need not end
		}
	}
	slices.Reverse(back)
	if got := strings.Join(rows, " "); got != want || !slices.Equal(rows, back) {
		t.Errorf("%s: %s, walked %s, want %s", name, got, back, want)
	}
}

// listed: the items of a map, as is wants them.
func listed[K, V any](m *alcove.Map[K, V]) string {
	return strings.ReplaceAll(shown(m), ":true", "")
}

// joining: a function for Merge that joins two values, and notes each call.
func joining(calls *[]string) func(x, y string) string {
	return func(x, y string) string {
		*calls = append(*calls, x+"+"+y)
		return "(" + x + "," + y + ")"
	}
}

// uncalled: a function for Merge that must not be called.
func uncalled[V any](t *testing.T) func(x, y V) V {
	return func(x, y V) V {
		t.Helper()
		t.Errorf("P10: f is called with %v and %v", x, y)
		return x
	}
}

func TestSplit(t *testing.T) {
	folded, turned := alcove.Folded(), alcove.Turned(alcove.Folded())
	for engine := range 2 {
		for _, c := range []struct {
			order          alcove.Order[string]
			all, k         string
			lower, greater string
		}{
			{folded, "a:1 B:2 c:3 D:4", "b", "a:1", "B:2 c:3 D:4"}, {folded, "a:1 B:2 c:3 D:4", "C", "a:1 B:2", "c:3 D:4"},
			{folded, "a:1 B:2 c:3 D:4", "BA", "a:1 B:2", "c:3 D:4"}, {folded, "a:1 B:2 c:3 D:4", "A", "", "a:1 B:2 c:3 D:4"},
			{folded, "a:1 B:2 c:3 D:4", "", "", "a:1 B:2 c:3 D:4"}, {folded, "a:1 B:2 c:3 D:4", "d", "a:1 B:2 c:3", "D:4"},
			{folded, "a:1 B:2 c:3 D:4", "da", "a:1 B:2 c:3 D:4", ""}, {folded, "a:1 B:2 c:3 D:4", "\xff", "a:1 B:2 c:3 D:4", ""},
			{turned, "D:4 c:3 B:2 a:1", "b", "D:4 c:3", "B:2 a:1"}, {turned, "D:4 c:3 B:2 a:1", "BA", "D:4 c:3", "B:2 a:1"},
			{turned, "D:4 c:3 B:2 a:1", "", "D:4 c:3 B:2 a:1", ""}, {turned, "D:4 c:3 B:2 a:1", "e", "", "D:4 c:3 B:2 a:1"},
			{turned, "D:4 c:3 B:2 a:1", "d", "", "D:4 c:3 B:2 a:1"}, {turned, "D:4 c:3 B:2 a:1", "A", "D:4 c:3 B:2", "a:1"},
			{folded, "", "a", "", ""}, {turned, "", "", "", ""}, {folded, "k:1", "K", "", "k:1"}, {turned, "k:1", "K", "", "k:1"},
		} {
			m := of(t, c.order, engine, c.all)
			low, high := m.Split(c.k)
			name := fmt.Sprintf("P10: engine %d: Split(%q) of %s", engine, c.k, c.all)
			is(t, name, low, c.lower)
			is(t, name, high, c.greater)
			is(t, name+", behind it", m, c.all)
			again, e := alcove.Merge(low, high, uncalled[string](t))
			if e != api.OK {
				t.Errorf("P12: Merge of what Split gave: %d", e)
			}
			is(t, "P12: put together again", again, c.all)
			again, e = alcove.Merge(high, low, uncalled[string](t))
			if e != api.OK {
				t.Errorf("P12: Merge of what Split gave, the other way: %d", e)
			}
			is(t, "P12: put together again, the other way", again, c.all)
		}
	}
}

// TestSplitFullMaps: at every place of a map that is full, and at the ends of all numbers.
func TestSplitFullMaps(t *testing.T) {
	for engine := range 2 {
		for _, o := range []alcove.Order[int]{alcove.Ints(), alcove.Turned(alcove.Ints())} {
			m := fresh[int, int](t, o, engine)
			for i := range 400 {
				m.Put(2*i*167%800, i)
			}
			all := listed(m)
			for _, k := range append([]int{math.MinInt, -1, 799, 800, math.MaxInt}, rand.New(rand.NewSource(8)).Perm(800)[:100]...) {
				low, high := m.Split(k)
				if r := m.Rank(k); low.Len() != r || high.Len() != 400-r {
					t.Fatalf("P10: Split(%d): %d and %d keys, want %d and %d", k, low.Len(), high.Len(), r, 400-r)
				}
				if got := strings.Trim(listed(low)+" "+listed(high), " "); got != all || listed(m) != all {
					t.Fatalf("P10: Split(%d): %s, want %s", k, got, all)
				}
				again, e := alcove.Merge(low, high, uncalled[int](t))
				if e != api.OK || listed(again) != all {
					t.Fatalf("P12: what Split(%d) parted: %d, %s, want %s", k, e, listed(again), all)
				}
			}
		}
	}
}

// asked: what Merge, Common and Without answer of two maps, which stay as they are.
func asked(t *testing.T, a, b *alcove.Map[string, string], merged, calls, common, without string) {
	t.Helper()
	before, beside := listed(a), listed(b)
	var noted []string
	m, e := alcove.Merge(a, b, joining(&noted))
	c, f := alcove.Common(a, b)
	w, g := alcove.Without(a, b)
	if e != api.OK || f != api.OK || g != api.OK {
		t.Fatalf("P10: %s and %s: %d, %d, %d", before, beside, e, f, g)
	}
	is(t, "P10: Merge", m, merged)
	is(t, "P10: Common", c, common)
	is(t, "P10: Without", w, without)
	if got := strings.Join(noted, " "); got != calls {
		t.Errorf("P10: calls of f: %s, want %s", got, calls)
	}
	is(t, "P10: the first map, behind it", a, before)
	is(t, "P10: the second map, behind it", b, beside)
	all, e := alcove.Merge(c, w, uncalled[string](t))
	if e != api.OK {
		t.Errorf("P12: Merge of Common and Without: %d", e)
	}
	is(t, "P12: Common and Without together", all, before)
}

func TestTwoMaps(t *testing.T) {
	folded, turned := alcove.Folded(), alcove.Turned(alcove.Folded())
	for engines := range 4 {
		asking := func(o alcove.Order[string], a, b, merged, calls, common, without string) {
			t.Helper()
			twice := alcove.Turned(alcove.Turned(o)) // is the order again
			asked(t, of(t, o, engines%2, a), of(t, twice, engines/2, b), merged, calls, common, without)
			asked(t, of(t, twice, engines%2, a), of(t, o, engines/2, b), merged, calls, common, without)
		}
		asking(folded, "a:1 B:2 c:3 D:4", "x:5 A:6 d:7 b:8", "a:(1,6) B:(2,8) c:3 D:(4,7) x:5", "1+6 2+8 4+7", "a:1 B:2 D:4", "c:3")
		asking(turned, "a:1 B:2 c:3 D:4", "x:5 A:6 d:7 b:8", "x:5 D:(4,7) c:3 B:(2,8) a:(1,6)", "4+7 2+8 1+6", "D:4 B:2 a:1", "c:3")
		asking(folded, "a:1 c:3", "b:2 d:4", "a:1 b:2 c:3 d:4", "", "", "a:1 c:3")
		asking(turned, "a:1 b:2", "c:3 d:4", "d:4 c:3 b:2 a:1", "", "", "b:2 a:1")
		asking(folded, "k:1", "K:2", "k:(1,2)", "1+2", "k:1", "")
		asking(folded, "K:", "k:", "K:(,)", "+", "K:", "")
		asking(folded, "b:1", "a:2 B:3 c:4", "a:2 b:(1,3) c:4", "1+3", "b:1", "")
		asking(folded, "a:2 B:3 c:4", "b:1", "a:2 B:(3,1) c:4", "3+1", "B:3", "a:2 c:4")
		asking(folded, "", "a:1 b:2", "a:1 b:2", "", "", "")
		asking(turned, "a:1 b:2", "", "b:2 a:1", "", "", "b:2 a:1")
		asking(turned, "", "", "", "", "", "")
		asking(alcove.Text(), "a:1 B:2", "A:3 b:4 a:5", "A:3 B:2 a:(1,5) b:4", "1+5", "a:1", "B:2")
		asking(alcove.Turned(alcove.Text()), "a:1 B:2", "A:3 b:4 a:5", "b:4 a:(1,5) B:2 A:3", "1+5", "a:1", "B:2")
	}
}

func TestMapWithItself(t *testing.T) {
	for engine := range 2 {
		for _, o := range []alcove.Order[string]{alcove.Folded(), alcove.Text(), alcove.Turned(alcove.Turned(alcove.Text()))} {
			m := of(t, o, engine, "c:3 a:1 b:2")
			asked(t, m, m, "a:(1,1) b:(2,2) c:(3,3)", "1+1 2+2 3+3", "a:1 b:2 c:3", "")
		}
		m := of(t, alcove.Turned(alcove.Text()), engine, "c:3 a:1 b:2")
		asked(t, m, m, "c:(3,3) b:(2,2) a:(1,1)", "3+3 2+2 1+1", "c:3 b:2 a:1", "")
		none := of(t, alcove.Text(), engine, "")
		asked(t, none, none, "", "", "", "")
	}
}

// TestPointsOfTwoMaps: what is the same by the order need not be by ==, nor have the same sign.
func TestPointsOfTwoMaps(t *testing.T) {
	none, minus := math.NaN(), math.Copysign(0, -1)
	for engines := range 4 {
		a := laid(t, alcove.Plane(), engines%2, complex(none, 1), complex(minus, 1), 5, complex(2, none))
		b := laid(t, alcove.Plane(), engines/2, complex(2, none), complex(0, 1), complex(none, 1), complex(none, minus))
		var calls []string
		m, e := alcove.Merge(a, b, joining(&calls))
		c, f := alcove.Common(a, b)
		w, g := alcove.Without(b, a)
		if e != api.OK || f != api.OK || g != api.OK {
			t.Fatalf("P10: points: %d, %d, %d", e, f, g)
		}
		if got, want := fmt.Sprint(calls), "[v(NaN+1i)+v(NaN+1i) v(-0+1i)+v(0+1i) v(2+NaNi)+v(2+NaNi)]"; got != want {
			t.Errorf("P10: calls of f: %s, want %s", got, want)
		}
		is(t, "P10: Merge", m, "(NaN-0i):v(NaN-0i) (NaN+1i):(v(NaN+1i),v(NaN+1i)) (-0+1i):(v(-0+1i),v(0+1i)) (2+NaNi):(v(2+NaNi),v(2+NaNi)) (5+0i):v(5+0i)")
		is(t, "P10: Common", c, "(NaN+1i):v(NaN+1i) (-0+1i):v(-0+1i) (2+NaNi):v(2+NaNi)")
		is(t, "P10: Without", w, "(NaN-0i):v(NaN-0i)")
	}
}

// refused: maps of two orders, either way round.
func refused[K any](t *testing.T, a, b *alcove.Map[K, string]) {
	t.Helper()
	before, beside := listed(a), listed(b)
	for range 2 {
		m, e := alcove.Merge(a, b, uncalled[string](t))
		c, f := alcove.Common(a, b)
		w, g := alcove.Without(a, b)
		if m != nil || c != nil || w != nil || e != api.ErrOrder || f != api.ErrOrder || g != api.ErrOrder {
			t.Errorf("P10: of two orders: %v, %d, %v, %d, %v, %d", m, e, c, f, w, g)
		}
		a, b = b, a
	}
	is(t, "P1: the first map, behind ErrOrder", a, before)
	is(t, "P1: the second map, behind ErrOrder", b, beside)
}

func TestTwoOrders(t *testing.T) {
	texts := []alcove.Order[string]{alcove.Text(), alcove.Folded(), alcove.Turned(alcove.Text()), alcove.Turned(alcove.Folded())}
	for engines := range 4 {
		for i, o := range texts {
			for j, p := range texts {
				for _, list := range []string{"", "a:1", "b:1 a:2"} {
					a, b := of(t, o, engines%2, "a:1"), of(t, alcove.Turned(alcove.Turned(p)), engines/2, list)
					if i != j {
						refused(t, a, b)
					} else if _, e := alcove.Merge(a, b, func(x, y string) string { return x }); e != api.OK {
						t.Errorf("P10: Merge of maps of one order: %d", e)
					}
				}
			}
		}
		ints, points := alcove.Ints(), alcove.Plane()
		refused(t, laid(t, ints, engines%2, 1, 2), laid(t, alcove.Turned(ints), engines/2, 1, 2))
		refused(t, laid(t, points, engines%2, 1, 2i), laid(t, alcove.Turned(points), engines/2))
		refused(t, laid(t, points, engines%2), laid(t, alcove.Turned(points), engines/2))
	}
}

// spread: a map of n numbers, from one on, by steps.
func spread(t *testing.T, o alcove.Order[int], engine, from, step, n int) *alcove.Map[int, int] {
	t.Helper()
	m := fresh[int, int](t, o, engine)
	for i := range n {
		m.Put(from+step*i, i)
	}
	return m
}

// TestMergeUpToFull: just MaxItems keys, and one more.
func TestMergeUpToFull(t *testing.T) {
	turned := alcove.Turned(alcove.Ints())
	for engines := range 4 {
		for _, c := range []struct {
			order   alcove.Order[int]
			a, b    [3]int // from, step, how many
			n, both int
		}{
			{alcove.Ints(), [3]int{0, 1, 400}, [3]int{0, 1, 400}, 400, 400}, {alcove.Ints(), [3]int{0, 1, 400}, [3]int{0, 1, 0}, 400, 0},
			{alcove.Ints(), [3]int{0, 1, 400}, [3]int{1, 1, 399}, 400, 399}, {alcove.Ints(), [3]int{0, 1, 400}, [3]int{1, 1, 400}, 401, 0},
			{turned, [3]int{0, 2, 200}, [3]int{1, 2, 200}, 400, 0}, {turned, [3]int{0, 2, 200}, [3]int{1, 2, 201}, 401, 0},
			{turned, [3]int{0, 1, 1}, [3]int{1, 1, 399}, 400, 0}, {turned, [3]int{0, 1, 1}, [3]int{1, 1, 400}, 401, 0},
			{alcove.Ints(), [3]int{0, 1, 300}, [3]int{200, 1, 200}, 400, 100}, {alcove.Ints(), [3]int{0, 1, 300}, [3]int{200, 1, 201}, 401, 0},
			{alcove.Ints(), [3]int{0, 1, 400}, [3]int{400, 1, 400}, 800, 0}, {turned, [3]int{0, 3, 400}, [3]int{1, 3, 400}, 800, 0},
		} {
			a := spread(t, c.order, engines%2, c.a[0], c.a[1], c.a[2])
			b := spread(t, c.order, engines/2, c.b[0], c.b[1], c.b[2])
			before, beside := listed(a), listed(b)
			calls := 0
			m, e := alcove.Merge(a, b, func(x, y int) int { calls++; return x })
			switch {
			case c.n > 400 && (m != nil || e != api.ErrFull):
				t.Errorf("P10: Merge of %d keys: %v, %d", c.n, m, e)
			case c.n <= 400 && (m == nil || e != api.OK || m.Len() != c.n):
				t.Errorf("P10: Merge of %d keys: %v, %d", c.n, m, e)
			}
			if calls != c.both {
				t.Errorf("P10: Merge of %d keys: f is called %d times, want %d", c.n, calls, c.both)
			}
			is(t, "P10: the first map", a, before)
			is(t, "P10: the second map", b, beside)
		}
	}
}

// TestOrderAheadOfFull: where both errors apply, it is the one that is named first.
func TestOrderAheadOfFull(t *testing.T) {
	a, b := spread(t, alcove.Ints(), api.Tree, 0, 1, 400), spread(t, alcove.Turned(alcove.Ints()), api.Skip, 400, 1, 400)
	if m, e := alcove.Merge(a, b, uncalled[int](t)); m != nil || e != api.ErrOrder {
		t.Errorf("P1: Merge of two orders and too many keys: %v, %d", m, e)
	}
}

// TestFullMapsOfCommonAndWithout: only Merge asks how many keys there were.
func TestFullMapsOfCommonAndWithout(t *testing.T) {
	for engines := range 4 {
		a, b := spread(t, alcove.Ints(), engines%2, 0, 1, 400), spread(t, alcove.Ints(), engines/2, 300, 1, 400)
		c, e := alcove.Common(a, b)
		w, f := alcove.Without(a, b)
		if e != api.OK || f != api.OK || c.Len() != 100 || w.Len() != 300 || w.Rank(300) != 300 || c.Rank(300) != 0 {
			t.Errorf("P10: Common and Without of full maps: %d, %d", e, f)
		}
	}
}

// TestMapsChangeAlone: P2, of maps that were given and maps that were made.
func TestMapsChangeAlone(t *testing.T) {
	for engines := range 4 {
		o := alcove.Turned(alcove.Folded())
		a, b := of(t, o, engines%2, "a:1 B:2 c:3 D:4"), of(t, o, engines/2, "b:5 d:6 e:7")
		join := func(x, y string) string { return x + y }
		m, _ := alcove.Merge(a, b, join)
		c, _ := alcove.Common(a, b)
		w, _ := alcove.Without(a, b)
		self, _ := alcove.Common(a, a)
		alone, _ := alcove.Merge(a, fresh[string, string](t, o, engines/2), join)
		low, high := a.Split("c")
		whole, none := a.Split("")
		nothing, everything := a.Split("z")
		all := []*alcove.Map[string, string]{a, b, m, c, w, self, alone, low, high, whole, none, nothing, everything}
		for i, one := range all {
			if one == nil || slices.Index(all, one) != i {
				t.Fatalf("P2: map %d is none, or is another one", i)
			}
			var before []string
			for _, m := range all {
				before = append(before, told(listed(m), m.Compared()))
			}
			for j := range one.Len() {
				k, _, _ := one.At(j)
				one.Put(k, "new")
			}
			one.Delete("b")
			one.Delete("d")
			one.Put("d", "late")
			one.Put("f", "more")
			for j, m := range all {
				if got := told(listed(m), m.Compared()); (got == before[j]) != (i != j) {
					t.Errorf("P2: map %d, when map %d changes: %s, was %s", j, i, got, before[j])
				}
			}
		}
	}
}

// TestMergeIsOfWhatWas: what f does to the maps is not seen in what Merge makes, and stays.
func TestMergeIsOfWhatWas(t *testing.T) {
	for engines := range 4 {
		a, b := of(t, alcove.Text(), engines%2, "a:1 b:2 c:3"), of(t, alcove.Text(), engines/2, "a:4 b:5 c:6 d:7")
		var calls []string
		join := joining(&calls)
		m, e := alcove.Merge(a, b, func(x, y string) string {
			a.Delete("b")
			b.Delete("c")
			b.Put("d", "new")
			a.Put("e", "new")
			alcove.Merge(b, a, func(x, y string) string { return y })
			return join(x, y)
		})
		if e != api.OK || fmt.Sprint(calls) != "[1+4 2+5 3+6]" {
			t.Errorf("P10: Merge: %d, calls of f %v", e, calls)
		}
		is(t, "P2: Merge", m, "a:(1,4) b:(2,5) c:(3,6) d:7")
		is(t, "P2: the first map", a, "a:1 c:3 e:new")
		is(t, "P2: the second map", b, "a:4 b:5 d:new")
	}
}

// TestMadeMapsAreMaps: P5 and P7 hold for maps that were made of others, which begin with nothing compared.
func TestMadeMapsAreMaps(t *testing.T) {
	for engines := range 4 {
		for _, o := range []alcove.Order[int]{alcove.Ints(), alcove.Turned(alcove.Ints())} {
			engine := engines % 2
			a, b := spread(t, o, engine, 0, 2, 300), spread(t, o, engines/2, 100, 4, 150)
			m, _ := alcove.Merge(a, b, func(x, y int) int { return x })
			c, _ := alcove.Common(a, b)
			w, _ := alcove.Without(a, b)
			low, high := a.Split(250)
			for i, made := range []*alcove.Map[int, int]{m, c, w, low, high} {
				if made == nil || made.Compared() != 0 {
					t.Fatalf("P7: map %d was not made, or with %d comparisons", i, made.Compared())
				}
				for k := -1; k < 702; k += 14 {
					looked(t, made, engine, k)
				}
				for k := 0; made.Len() < 400; k++ {
					made.Put(1000+k, 0)
				}
				if got := tell3(made.Put(5000, 1)); got != told(0, false, api.ErrFull) {
					t.Errorf("P5: map %d: Put when it is full: %q", i, got)
				}
				cursor := made.Cursor()
				for j := range 400 {
					want, _, _ := made.At(j)
					if k, _, ok := cursor.Next(); k != want || !ok {
						t.Fatalf("P9: map %d: Next is %d, %v, want %d", i, k, ok, want)
					}
				}
			}
		}
	}
}

// TestEnginesAnswerAlike: P2: the same calls on maps of either engine, Compared as well where the engines are the same.
func TestEnginesAnswerAlike(t *testing.T) {
	play := func(engine, other int) (string, string) {
		a, b := spread(t, alcove.Ints(), engine, 0, 3, 120), spread(t, alcove.Ints(), other, 0, 5, 90)
		m, e := alcove.Merge(a, b, func(x, y int) int { return x - y })
		c, f := alcove.Common(b, a)
		w, g := alcove.Without(m, c)
		low, high := w.Split(171)
		maps := []*alcove.Map[int, int]{a, b, m, c, w, low, high}
		var items, compared []string
		for _, m := range maps {
			m.Rank(100)
			items, compared = append(items, listed(m)), append(compared, told(m.Compared()))
		}
		return told(items, e, f, g), told(compared)
	}
	first, _ := play(api.Tree, api.Tree)
	for engines := range 4 {
		items, compared := play(engines%2, engines/2)
		again, often := play(engines%2, engines/2)
		if items != first || again != first || compared != often {
			t.Errorf("P2: engines %d and %d: the same calls are answered in two ways", engines%2, engines/2)
		}
	}
}

// pickedBy: the items of a world for which there is a value, as is wants them.
func pickedBy[K any](w world[K], value func(i int) (string, bool)) string {
	var l []string
	for i := range 40 {
		if v, is := value(i); is {
			l = append(l, fmt.Sprintf("%v:%v", w.key(i), v))
		}
	}
	return strings.Join(l, " ")
}

// severalByChance: maps that change by chance, against sets of numbers.
func severalByChance[K any](t *testing.T, w world[K], engines int) {
	t.Helper()
	chance := rand.New(rand.NewSource(9))
	a, b := fresh[K, string](t, w.order, engines%2), fresh[K, string](t, w.order, engines/2)
	inA, inB := map[int]string{}, map[int]string{}
	for step := range 150 {
		for range 1 + chance.Intn(20) {
			stir(chance, w, a, inA)
			stir(chance, w, b, inB)
		}
		var calls, due []string
		m, _ := alcove.Merge(a, b, joining(&calls))
		c, _ := alcove.Common(a, b)
		x, _ := alcove.Without(a, b)
		at := chance.Intn(40)
		low, high := a.Split(w.key(at))
		is(t, "P10: Merge", m, pickedBy(w, func(i int) (string, bool) {
			v, had := inA[i]
			u, has := inB[i]
			if had && has {
				due = append(due, v+"+"+u)
				return "(" + v + "," + u + ")", true
			}
			return v + u, had || has
		}))
		if !slices.Equal(calls, due) {
			t.Errorf("P10: calls of f: %v, want %v", calls, due)
		}
		only := func(keep func(i int) bool) string {
			return pickedBy(w, func(i int) (string, bool) { v, had := inA[i]; return v, had && keep(i) })
		}
		other := func(i int) bool { _, has := inB[i]; return has }
		is(t, "P10: Common", c, only(other))
		is(t, "P10: Without", x, only(func(i int) bool { return !other(i) }))
		is(t, "P10: Split, below", low, only(func(i int) bool { return i < at }))
		is(t, "P10: Split, others", high, only(func(i int) bool { return i >= at }))
		is(t, "P10: the first map", a, only(func(int) bool { return true }))
		if t.Failed() {
			t.Fatalf("engines %d, step %d", engines, step)
		}
	}
}

func TestSeveralByChance(t *testing.T) {
	number := func(i int) int { return 3*i - 50 }
	text := func(i int) string { return strings.Repeat("é", i/8) + string(rune('p'+i%8)) }
	point := func(i int) complex128 { return complex(float64(i/5), float64(i%5-2)) }
	for engines := range 4 {
		severalByChance(t, world[int]{alcove.Ints(), number}, engines)
		severalByChance(t, world[int]{alcove.Turned(alcove.Ints()), func(i int) int { return -number(i) }}, engines)
		severalByChance(t, world[string]{alcove.Text(), text}, engines)
		severalByChance(t, world[string]{alcove.Turned(alcove.Folded()), func(i int) string { return text(39 - i) }}, engines)
		severalByChance(t, world[complex128]{alcove.Plane(), point}, engines)
		severalByChance(t, world[complex128]{alcove.Turned(alcove.Plane()), func(i int) complex128 { return -point(i) }}, engines)
	}
}

// summed: a sum is this one, to the signs of its noughts.
func summed[K any](t *testing.T, m *alcove.Map[K, complex128], from, to K, want complex128) {
	t.Helper()
	before := listed(m)
	got := alcove.Sum(m, from, to)
	same := func(x, y float64) bool {
		return x == y && math.Signbit(x) == math.Signbit(y) || x != x && y != y
	}
	if !same(real(got), real(want)) || !same(imag(got), imag(want)) {
		t.Errorf("P11: Sum(%v, %v) = %v, want %v", from, to, got, want)
	}
	if listed(m) != before {
		t.Errorf("P11: Sum has changed the map: %s, was %s", listed(m), before)
	}
}

func TestSumEnds(t *testing.T) {
	const least, most = math.MinInt, math.MaxInt
	for engine := range 2 {
		up, down := fresh[int, complex128](t, alcove.Ints(), engine), fresh[int, complex128](t, alcove.Turned(alcove.Ints()), engine)
		summed(t, up, least, most, 0)
		summed(t, down, most, least, 0)
		for i, k := range []int{30, 10, most, 20, least} {
			v := complex(math.Pow(10, float64(i)), math.Pow(2, float64(i)))
			up.Put(k, v)
			down.Put(k, v)
		}
		for _, c := range []struct {
			from, to int
			want     complex128
		}{
			{10, 30, 1010 + 10i}, {10, 31, 1011 + 11i}, {11, 30, 1000 + 8i}, {9, 20, 10 + 2i}, {11, 20, 0}, {12, 18, 0}, {20, 20, 0}, {30, 10, 0}, {25, 15, 0},
			{least, most, 11011 + 27i}, {least, 10, 10000 + 16i}, {least + 1, most, 1011 + 11i}, {most, most, 0}, {least, least, 0}, {most, least, 0}, {31, most, 0},
		} {
			summed(t, up, c.from, c.to, c.want)
		}
		for _, c := range []struct {
			from, to int
			want     complex128
		}{
			{30, 10, 1001 + 9i}, {29, 9, 1010 + 10i}, {20, 10, 1000 + 8i}, {19, 11, 0}, {20, 20, 0}, {10, 30, 0},
			{most, least, 1111 + 15i}, {most - 1, least, 1011 + 11i}, {least, most, 0}, {least, least, 0}, {10, least, 10 + 2i},
		} {
			summed(t, down, c.from, c.to, c.want)
		}
	}
}

// TestSumOneByOne: values with which one can see in which order they are added, and from what on.
func TestSumOneByOne(t *testing.T) {
	for engine := range 2 {
		for _, c := range []struct {
			values []complex128
			want   complex128
			turned complex128
		}{
			{[]complex128{1e16, 1, -1e16}, 0, 0}, {[]complex128{1, 1e16, -1e16}, 0, 1}, {[]complex128{1e16i, -1e16i, 1i}, 1i, 0},
			{[]complex128{1e16 + 1i, -1e16 + 1e16i, 1 - 1e16i}, 1, 1i},
			{[]complex128{math.MaxFloat64, math.MaxFloat64, -math.MaxFloat64, 1}, complex(math.Inf(1), 0), complex(math.MaxFloat64, 0)},
			{[]complex128{0.1, 0.2, 0.3}, 0.6000000000000001, 0.6}, {[]complex128{0.1i, 0.2i, 0.3i}, 0.6000000000000001i, 0.6i},
		} {
			up, down := fresh[int, complex128](t, alcove.Ints(), engine), fresh[int, complex128](t, alcove.Turned(alcove.Ints()), engine)
			for i := range c.values {
				up.Put(len(c.values)-1-i, c.values[len(c.values)-1-i])
				down.Put(i, c.values[i])
			}
			summed(t, up, 0, 9, c.want)
			summed(t, down, 9, -1, c.turned)
		}
	}
}

// TestSumOfOddValues: noughts, what is beyond all numbers, and what is none; each part for itself.
func TestSumOfOddValues(t *testing.T) {
	none, beyond, minus := math.NaN(), math.Inf(1), math.Copysign(0, -1)
	for engine := range 2 {
		for _, c := range []struct {
			values []complex128
			want   complex128
		}{
			{[]complex128{complex(minus, minus)}, 0}, {[]complex128{complex(minus, 1), complex(minus, -1)}, 0},
			{[]complex128{complex(none, 1), 2i}, complex(none, 3)}, {[]complex128{1, complex(2, none)}, complex(3, none)},
			{[]complex128{complex(beyond, 1), 1 + 1i}, complex(beyond, 2)}, {[]complex128{complex(1, -beyond), 1 + 1i}, complex(2, -beyond)},
			{[]complex128{complex(beyond, 1), complex(-beyond, 1), 1}, complex(none, 2)}, {[]complex128{complex(beyond, -beyond), complex(1, beyond)}, complex(beyond, none)},
			{[]complex128{5e-324 + 5e-324i, 5e-324 - 5e-324i}, 1e-323},
		} {
			m, p := fresh[string, complex128](t, alcove.Text(), engine), fresh[complex128, complex128](t, alcove.Turned(alcove.Plane()), engine)
			for i, v := range c.values {
				m.Put(string(rune('a'+i)), v)
				p.Put(complex(none, float64(-i)), v)
			}
			summed(t, m, "", "\xff", c.want)
			summed(t, p, 0, complex(none, none), c.want)
			summed(t, m, "b", "b", 0)
		}
	}
}

// TestSumOfMadeMaps: P12: what Split parts has the sums that it had.
func TestSumOfMadeMaps(t *testing.T) {
	for engine := range 2 {
		m := fresh[complex128, complex128](t, alcove.Plane(), engine)
		for i := range 400 {
			p := complex(float64(i%20), float64(i/20))
			m.Put(p, p)
		}
		low, high := m.Split(7 + 3i)
		summed(t, low, -1, 20, alcove.Sum(m, -1, 7+3i))
		summed(t, high, -1, 20, alcove.Sum(m, 7+3i, 20))
		all, _ := alcove.Merge(high, low, uncalled[complex128](t))
		summed(t, all, 0, 20, 3800+3800i)
		both, _ := alcove.Merge(m, low, func(x, y complex128) complex128 { return x * y })
		summed(t, both, 0, 1i, 0)
		summed(t, both, 1+1i, 1+3i, (1+1i)*(1+1i)+(1+2i)*(1+2i))
	}
}
