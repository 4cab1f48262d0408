package alcove

import "iter"

// Range goes over the keys from one on, below another one (P8).
func (m *Map[K, V]) Range(from, to K) iter.Seq2[K, V] { return func(yield func(K, V) bool) {} }

// Back goes over all keys, falling (P8).
func (m *Map[K, V]) Back() iter.Seq2[K, V] { return func(yield func(K, V) bool) {} }

// Cursor stands between keys.
type Cursor[K, V any] struct{}

// Cursor makes one, ahead of all keys (P9).
func (m *Map[K, V]) Cursor() *Cursor[K, V] { return nil }

// Next goes over the next key (P9).
func (c *Cursor[K, V]) Next() (K, V, bool) {
	var k K
	var v V
	return k, v, false
}

// Prev goes back over a key (P9).
func (c *Cursor[K, V]) Prev() (K, V, bool) {
	var k K
	var v V
	return k, v, false
}

// Seek goes to stand ahead of a key (P9).
func (c *Cursor[K, V]) Seek(k K) {}
