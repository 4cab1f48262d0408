package alcove

import "alcove/api"

// Split makes two maps (P10).
func (m *Map[K, V]) Split(k K) (*Map[K, V], *Map[K, V]) { return nil, nil }

// Merge makes a map of all keys of two (P10).
func Merge[K, V any](a, b *Map[K, V], f func(x, y V) V) (*Map[K, V], api.Errno) { return nil, api.OK }

// Common makes a map of the keys that both have (P10).
func Common[K, V any](a, b *Map[K, V]) (*Map[K, V], api.Errno) { return nil, api.OK }

// Without makes a map of the keys that only the first one has (P10).
func Without[K, V any](a, b *Map[K, V]) (*Map[K, V], api.Errno) { return nil, api.OK }

// Sum adds values up (P11).
func Sum[K any](m *Map[K, complex128], from, to K) complex128 { return 0 }
