package alcove

import "alcove/api"

// alike makes an empty map, of the order and the engine of m.
func (m *Map[K, V]) alike() *Map[K, V] {
	made, _ := New[K, V](m.order, m.engine)
	return made
}

// add lays an item by behind all others. Who makes a map of others has its keys rising, so that nothing need be compared again.
func (m *Map[K, V]) add(k K, v V) { m.items.Insert(m.items.Len(), k, v) }

// piece makes a map of the keys of m from one rank on, below another one.
func (m *Map[K, V]) piece(from, to int) *Map[K, V] {
	made := m.alike()
	for i := from; i < to; i++ {
		made.add(m.items.At(i))
	}
	return made
}

// Split makes two maps (P10).
func (m *Map[K, V]) Split(k K) (*Map[K, V], *Map[K, V]) {
	if m.bare() {
		return nil, nil
	}
	i, _ := m.find(k)
	return m.piece(0, i), m.piece(i, m.Len())
}

// held is a key that one of two maps has, or both, with the values there.
type held[K, V any] struct {
	key               K // as the first map has it, if it does
	ofFirst, ofSecond V
	inFirst, inSecond bool
}

// meeting is a way along two maps of one order, key by key; i and j keys are passed.
type meeting[K, V any] struct {
	a, b *Map[K, V]
	i, j int
}

// side tells how the next key of a stands to the next one of b. The call is one on both maps, so that both count what is compared; where they are one map, it counts once.
func (w *meeting[K, V]) side() int {
	k, _, more := w.a.At(w.i)
	if !more {
		return 1
	}
	l, _, more := w.b.At(w.j)
	if !more {
		return -1
	}
	if w.b != w.a {
		w.b.compared++
	}
	return w.a.compare(k, l)
}

// next passes the least key that is ahead, in each map that has it.
func (w *meeting[K, V]) next() held[K, V] {
	var h held[K, V]
	side := w.side()
	if side >= 0 {
		h.key, h.ofSecond, h.inSecond = w.b.At(w.j)
		w.j++
	}
	if side <= 0 {
		h.key, h.ofFirst, h.inFirst = w.a.At(w.i)
		w.i++
	}
	return h
}

// met lists all keys that a or b has, rising.
func met[K, V any](a, b *Map[K, V]) []held[K, V] {
	var all []held[K, V]
	for w := (meeting[K, V]{a: a, b: b}); w.i < a.Len() || w.j < b.Len(); {
		all = append(all, w.next())
	}
	return all
}

// apart tells why two maps cannot be held against each other, if so.
func apart[K, V any](a, b *Map[K, V]) api.Errno {
	if a.bare() || b.bare() {
		return api.ErrEngine // what New answers with this error is no map
	}
	if a.order != b.order {
		return api.ErrOrder
	}
	return api.OK
}

// Merge makes a map of all keys of two (P10).
func Merge[K, V any](a, b *Map[K, V], f func(x, y V) V) (*Map[K, V], api.Errno) {
	if e := apart(a, b); e != api.OK {
		return nil, e
	}
	all := met(a, b) // ahead of the first call of f: f may itself change the maps
	if len(all) > api.MaxItems {
		return nil, api.ErrFull
	}
	made := a.alike()
	for _, h := range all {
		made.add(h.key, h.value(f))
	}
	return made, api.OK
}

// value is what the key has in a merged map.
func (h held[K, V]) value(f func(x, y V) V) V {
	if !h.inFirst {
		return h.ofSecond
	}
	if !h.inSecond || f == nil {
		return h.ofFirst // where there is no f, rather than panic
	}
	return f(h.ofFirst, h.ofSecond)
}

// Common makes a map of the keys that both have (P10).
func Common[K, V any](a, b *Map[K, V]) (*Map[K, V], api.Errno) { return kept(a, b, true) }

// Without makes a map of the keys that only the first one has (P10).
func Without[K, V any](a, b *Map[K, V]) (*Map[K, V], api.Errno) { return kept(a, b, false) }

// kept makes a map of the keys of a that b has too, or of the others.
func kept[K, V any](a, b *Map[K, V], too bool) (*Map[K, V], api.Errno) {
	if e := apart(a, b); e != api.OK {
		return nil, e
	}
	made := a.alike()
	for _, h := range met(a, b) {
		if h.inFirst && h.inSecond == too {
			made.add(h.key, h.ofFirst)
		}
	}
	return made, api.OK
}

// Sum adds values up (P11).
func Sum[K any](m *Map[K, complex128], from, to K) complex128 {
	var sum complex128
	for _, v := range m.Range(from, to) {
		sum += v
	}
	return sum
}
