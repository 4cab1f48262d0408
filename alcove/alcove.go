// Package alcove: ordered maps: see DOC.md.
package alcove

import (
	"alcove/api"
	"alcove/order"
	"alcove/skip"
	"alcove/tree"
)

// Order of keys.
type Order[K any] struct {
	rule   order.Rule[K]
	turned bool
}

// Ints is that of numbers (P3).
func Ints() Order[int] { return Order[int]{rule: order.Ints{}} }

// Text is that of texts, by runes (P3).
func Text() Order[string] { return Order[string]{rule: order.Texts{}} }

// Folded is that of texts, where capitals are small letters (P3).
func Folded() Order[string] { return Order[string]{rule: order.Texts{Folded: true}} }

// Plane is that of complex numbers (P3).
func Plane() Order[complex128] { return Order[complex128]{rule: order.Plane{}} }

// Turned is the other way round (P3).
func Turned[K any](o Order[K]) Order[K] { return Order[K]{o.rule, !o.turned} }

// compare tells how a stands to b: below 0, if it is below; 0, if they are the same.
func (o Order[K]) compare(a, b K) int {
	if o.rule == nil {
		return 0 // an order that was not made by these calls tells no keys apart, rather than panic
	}
	if o.turned {
		a, b = b, a
	}
	return o.rule.Compare(a, b)
}

// row is what the engines have in common: items in a row, by place. Of its methods, only Find asks how keys stand: the rest work by place, and compare nothing.
type row[K, V any] interface {
	Len() int
	Find(side func(key K) int) (int, bool)
	At(i int) (K, V)
	Set(i int, v V)
	Insert(i int, k K, v V)
	Remove(i int)
}

// Map from keys to values.
type Map[K, V any] struct {
	order    Order[K]
	engine   int // kept for the maps that are made of this one
	items    row[K, V]
	compared int
}

// New makes an empty map (P4).
func New[K, V any](o Order[K], engine int) (*Map[K, V], api.Errno) {
	switch engine {
	case api.Tree:
		return &Map[K, V]{order: o, engine: engine, items: tree.New[K, V]()}, api.OK
	case api.Skip:
		return &Map[K, V]{order: o, engine: engine, items: skip.New[K, V]()}, api.OK
	}
	return nil, api.ErrEngine
}

// bare tells a map that has no engine, such as the nil that New answers with an error.
func (m *Map[K, V]) bare() bool { return m == nil || m.items == nil }

// find tells how many keys are below k, and whether the next one is the same.
func (m *Map[K, V]) find(k K) (int, bool) {
	if m.bare() {
		return 0, false
	}
	return m.items.Find(func(key K) int { return m.compare(k, key) })
}

// compare tells how a stands to b, as the order does, and counts it: all calls on maps compare keys by it.
func (m *Map[K, V]) compare(a, b K) int {
	m.compared++
	return m.order.compare(a, b)
}

// Put lays a value by (P5).
func (m *Map[K, V]) Put(k K, v V) (V, bool, api.Errno) {
	var none V
	if m.bare() {
		return none, false, api.ErrEngine
	}
	i, same := m.find(k)
	if same {
		_, was := m.items.At(i)
		m.items.Set(i, v)
		return was, true, api.OK
	}
	if m.Len() >= api.MaxItems {
		return none, false, api.ErrFull
	}
	m.items.Insert(i, k, v)
	return none, false, api.OK
}

// Get tells a key's value (P5).
func (m *Map[K, V]) Get(k K) (V, bool) {
	i, same := m.find(k)
	if !same {
		var none V
		return none, false
	}
	_, v := m.items.At(i)
	return v, true
}

// Delete takes a key away (P5).
func (m *Map[K, V]) Delete(k K) (V, bool) {
	i, same := m.find(k)
	if !same {
		var none V
		return none, false
	}
	_, v := m.items.At(i)
	m.items.Remove(i)
	return v, true
}

// Len tells how many keys there are (P5).
func (m *Map[K, V]) Len() int {
	if m.bare() {
		return 0
	}
	return m.items.Len()
}

// Rank tells how many keys are below one (P6).
func (m *Map[K, V]) Rank(k K) int {
	i, _ := m.find(k)
	return i
}

// At tells the key of a rank (P6).
func (m *Map[K, V]) At(i int) (K, V, bool) {
	if i < 0 || i >= m.Len() {
		var k K
		var v V
		return k, v, false
	}
	k, v := m.items.At(i)
	return k, v, true
}

// Floor tells the greatest key that is not above one (P6).
func (m *Map[K, V]) Floor(k K) (K, V, bool) {
	i, same := m.find(k)
	if !same {
		i--
	}
	return m.At(i)
}

// Ceiling tells the least key that is not below one (P6).
func (m *Map[K, V]) Ceiling(k K) (K, V, bool) {
	i, _ := m.find(k)
	return m.At(i)
}

// Compared tells how often keys were compared (P7).
func (m *Map[K, V]) Compared() int {
	if m == nil {
		return 0
	}
	return m.compared
}
