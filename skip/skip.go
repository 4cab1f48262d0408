// Package skip: items in a row, kept as a skip list.
package skip

import "math/bits"

// levels is enough for some 500 items: each level has half the nodes of the one beneath.
const levels = 9

// List is a row of keys with their values. It knows no order: whoever lays items by says at which place.
type List[K, V any] struct {
	head *node[K, V]
	size int
	laid uint64 // items ever laid by; it stands for chance where a node's height is chosen
}

type node[K, V any] struct {
	key   K
	value V
	next  []link[K, V] // by level; as many as the node is high
}

// link leads to a node of the same level, or nil behind the last one, which counts as one place too.
type link[K, V any] struct {
	to    *node[K, V]
	steps int // places that it goes on by
}

// New makes an empty one.
func New[K, V any]() *List[K, V] {
	head := &node[K, V]{next: make([]link[K, V], levels)}
	for l := range head.next {
		head.next[l].steps = 1
	}
	return &List[K, V]{head: head}
}

// Len tells how many items there are.
func (t *List[K, V]) Len() int { return t.size }

// Find tells how many keys are below the one sought, and whether the next one is the same. side tells how the one sought stands to a key: below 0, 0, above 0.
func (t *List[K, V]) Find(side func(key K) int) (int, bool) {
	n, below := t.head, 0
	var above *node[K, V] // known to be above already: no need to ask again a level lower
	for l := levels - 1; l >= 0; l-- {
		for n.next[l].to != above {
			next := n.next[l]
			s := side(next.to.key)
			if s == 0 {
				return below + next.steps - 1, true
			}
			if s < 0 {
				above = next.to
			} else {
				n, below = next.to, below+next.steps
			}
		}
	}
	return below, false
}

// At tells the item at a place from 0 to Len less 1.
func (t *List[K, V]) At(i int) (K, V) {
	n := t.place(i)
	return n.key, n.value
}

// Set changes the value at a place from 0 to Len less 1.
func (t *List[K, V]) Set(i int, v V) { t.place(i).value = v }

// Insert lays an item by at a place from 0 to Len; those from there on move up.
func (t *List[K, V]) Insert(i int, k K, v V) {
	t.laid++
	n := &node[K, V]{key: k, value: v, next: make([]link[K, V], height(t.laid))}
	for l, s := range t.trail(i) {
		over := &s.from.next[l]
		if l >= len(n.next) {
			over.steps++
			continue
		}
		n.next[l] = link[K, V]{over.to, over.steps - s.left}
		*over = link[K, V]{n, s.left + 1}
	}
	t.size++
}

// Remove takes the item at a place from 0 to Len less 1 away; those behind it move down.
func (t *List[K, V]) Remove(i int) {
	gone := t.place(i)
	for l, s := range t.trail(i) {
		over := &s.from.next[l]
		if over.to == gone {
			over.to = gone.next[l].to
			over.steps += gone.next[l].steps
		}
		over.steps--
	}
	t.size--
}

func (t *List[K, V]) place(i int) *node[K, V] { return t.trail(i + 1)[0].from }

// stop is a node from which a level's way goes on over a place.
type stop[K, V any] struct {
	from *node[K, V]
	left int // items that stand between it and that place
}

// trail tells, level by level, the last node ahead of the place i.
func (t *List[K, V]) trail(i int) [levels]stop[K, V] {
	var stops [levels]stop[K, V]
	n, left := t.head, i
	for l := levels - 1; l >= 0; l-- {
		for n.next[l].to != nil && n.next[l].steps <= left {
			n, left = n.next[l].to, left-n.next[l].steps
		}
		stops[l] = stop[K, V]{n, left}
	}
	return stops
}

// height tells how many levels the node that is laid by as the count-th one has. Multiples of a number near the golden section of 2^64 lie evenly, also every second or third of them; so half of all nodes have 1 level, a quarter 2, and so on, whichever are deleted.
func height(count uint64) int {
	return min(bits.LeadingZeros64(count*0x9e3779b97f4a7c15)+1, levels)
}
