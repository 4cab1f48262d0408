package alcove

import "iter"

// side tells where a place is.
type side int

const (
	first  side = iota // ahead of all keys; it is the zero place, since a cursor begins there
	ahead              // right ahead of the place's key
	behind             // right behind the place's key
	last               // behind all keys
)

// place is a spot among all keys that there may be. It holds a key, never a rank, so that it does not move when the map changes.
type place[K any] struct {
	side side
	key  K
}

// passed tells how many keys of the map are ahead of a place.
func (m *Map[K, V]) passed(p place[K]) int {
	switch p.side {
	case first:
		return 0
	case last:
		return m.Len()
	}
	i, same := m.find(p.key)
	if same && p.side == behind {
		i++
	}
	return i
}

// next tells the least key above a place.
func (m *Map[K, V]) next(p place[K]) (K, V, bool) { return m.At(m.passed(p)) }

// prev tells the greatest key below a place.
func (m *Map[K, V]) prev(p place[K]) (K, V, bool) { return m.At(m.passed(p) - 1) }

// rising gives all keys above a place. Each one is sought only when its turn comes, since a body may have changed the map by then.
func (m *Map[K, V]) rising(p place[K]) iter.Seq2[K, V] {
	return func(yield func(K, V) bool) {
		k, v, ok := m.next(p)
		for ok && yield(k, v) {
			k, v, ok = m.next(place[K]{behind, k})
		}
	}
}

// falling gives all keys below a place, each one sought when its turn comes, as in rising.
func (m *Map[K, V]) falling(p place[K]) iter.Seq2[K, V] {
	return func(yield func(K, V) bool) {
		k, v, ok := m.prev(p)
		for ok && yield(k, v) {
			k, v, ok = m.prev(place[K]{ahead, k})
		}
	}
}

// Range goes over the keys from one on, below another one (P8).
func (m *Map[K, V]) Range(from, to K) iter.Seq2[K, V] {
	return func(yield func(K, V) bool) {
		for k, v := range m.rising(place[K]{ahead, from}) {
			if m.compare(k, to) >= 0 || !yield(k, v) {
				return
			}
		}
	}
}

// Back goes over all keys, falling (P8).
func (m *Map[K, V]) Back() iter.Seq2[K, V] { return m.falling(place[K]{side: last}) }

// Cursor stands between keys.
type Cursor[K, V any] struct {
	of    *Map[K, V]
	place place[K]
}

// Cursor makes one, ahead of all keys (P9).
func (m *Map[K, V]) Cursor() *Cursor[K, V] { return &Cursor[K, V]{of: m} }

// Next goes over the next key (P9).
func (c *Cursor[K, V]) Next() (K, V, bool) {
	if c == nil {
		c = new(Cursor[K, V]) // one that nobody made finds nothing, as one of no map does
	}
	k, v, ok := c.of.next(c.place)
	if ok {
		c.place = place[K]{behind, k}
	}
	return k, v, ok
}

// Prev goes back over a key (P9).
func (c *Cursor[K, V]) Prev() (K, V, bool) {
	if c == nil {
		c = new(Cursor[K, V]) // one that nobody made finds nothing, as one of no map does
	}
	k, v, ok := c.of.prev(c.place)
	if ok {
		c.place = place[K]{ahead, k}
	}
	return k, v, ok
}

// Seek goes to stand ahead of a key (P9).
func (c *Cursor[K, V]) Seek(k K) {
	if c != nil {
		c.place = place[K]{ahead, k}
	}
}
