// Package tree: items in a row, kept as a balanced (AVL) tree, found by few comparisons.
package tree

// Tree is a row of keys with their values. It knows no order: whoever lays items by says at which place.
type Tree[K, V any] struct {
	top *node[K, V]
}

type node[K, V any] struct {
	key       K
	value     V
	low, high *node[K, V]
	size      int // nodes from here down
	height    int // levels from here down
}

// New makes an empty one.
func New[K, V any]() *Tree[K, V] { return &Tree[K, V]{} }

// Len tells how many items there are.
func (t *Tree[K, V]) Len() int { return t.top.count() }

// Find tells how many keys are below the one sought, and whether the next one is the same. side tells how the one sought stands to a key: below 0, 0, above 0.
func (t *Tree[K, V]) Find(side func(key K) int) (int, bool) {
	below := 0
	for n := t.top; n != nil; {
		s := side(n.key)
		if s == 0 {
			return below + n.low.count(), true
		}
		if s < 0 {
			n = n.low
		} else {
			below += n.low.count() + 1
			n = n.high
		}
	}
	return below, false
}

// At tells the item at a place from 0 to Len less 1.
func (t *Tree[K, V]) At(i int) (K, V) {
	n := t.place(i)
	return n.key, n.value
}

// Set changes the value at a place from 0 to Len less 1.
func (t *Tree[K, V]) Set(i int, v V) { t.place(i).value = v }

// Insert lays an item by at a place from 0 to Len; those from there on move up.
func (t *Tree[K, V]) Insert(i int, k K, v V) { t.top = t.top.insert(i, k, v) }

// Remove takes the item at a place from 0 to Len less 1 away; those behind it move down.
func (t *Tree[K, V]) Remove(i int) { t.top = t.top.remove(i) }

func (t *Tree[K, V]) place(i int) *node[K, V] {
	n := t.top
	for i != n.low.count() {
		if i < n.low.count() {
			n = n.low
		} else {
			i -= n.low.count() + 1
			n = n.high
		}
	}
	return n
}

func (n *node[K, V]) count() int {
	if n == nil {
		return 0
	}
	return n.size
}

func (n *node[K, V]) levels() int {
	if n == nil {
		return 0
	}
	return n.height
}

func (n *node[K, V]) insert(i int, k K, v V) *node[K, V] {
	if n == nil {
		return &node[K, V]{key: k, value: v, size: 1, height: 1}
	}
	if i <= n.low.count() {
		n.low = n.low.insert(i, k, v)
	} else {
		n.high = n.high.insert(i-n.low.count()-1, k, v)
	}
	return n.balanced()
}

func (n *node[K, V]) remove(i int) *node[K, V] {
	switch here := n.low.count(); {
	case i < here:
		n.low = n.low.remove(i)
	case i > here:
		n.high = n.high.remove(i - here - 1)
	case n.low == nil:
		return n.high
	case n.high == nil:
		return n.low
	default:
		next := n.high.first()
		n.key, n.value = next.key, next.value
		n.high = n.high.remove(0)
	}
	return n.balanced()
}

func (n *node[K, V]) first() *node[K, V] {
	for n.low != nil {
		n = n.low
	}
	return n
}

// balanced gives the top of what stands from n down, where one side may be two levels higher than the other one.
func (n *node[K, V]) balanced() *node[K, V] {
	switch n.low.levels() - n.high.levels() {
	case 2:
		if n.low.low.levels() < n.low.high.levels() {
			n.low = n.low.turnedLow()
		}
		return n.turnedHigh()
	case -2:
		if n.high.high.levels() < n.high.low.levels() {
			n.high = n.high.turnedHigh()
		}
		return n.turnedLow()
	}
	n.measure()
	return n
}

// turnedHigh lifts the lower side above n.
func (n *node[K, V]) turnedHigh() *node[K, V] {
	top := n.low
	n.low, top.high = top.high, n
	n.measure()
	top.measure()
	return top
}

// turnedLow lifts the higher side above n.
func (n *node[K, V]) turnedLow() *node[K, V] {
	top := n.high
	n.high, top.low = top.low, n
	n.measure()
	top.measure()
	return top
}

func (n *node[K, V]) measure() {
	n.size = n.low.count() + n.high.count() + 1
	n.height = max(n.low.levels(), n.high.levels()) + 1
}
