// Package sorted is layer 15: see shared/doc/15-sorted.md.
package sorted

import "iter"

// Map has things by keys, in order. Its nodes never change once they are made: so an iterator goes on with what was there when it began, and a clone costs nothing.
type Map[K, V any] struct {
	order func(a, b K) int
	top   *node[K, V]
	many  int
}

// New: P15.1.
func New[K, V any](order func(a, b K) int) *Map[K, V] {
	if order == nil {
		return nil
	}
	return &Map[K, V]{order: order}
}

// Put: P15.1. Of keys that the order holds for one, the one that came first stays.
func (m *Map[K, V]) Put(k K, v V) bool {
	if m.ordered() == nil {
		return false
	}
	_, had := m.Get(k)
	m.top = m.top.with(m.order, item[K, V]{k, v})
	if !had {
		m.many++
	}
	return !had
}

// Get: P15.1.
func (m *Map[K, V]) Get(k K) (v V, ok bool) {
	if m == nil {
		return v, false
	}
	for n := m.top; n != nil; {
		c := m.order(k, n.key)
		switch {
		case c < 0:
			n = n.low
		case c > 0:
			n = n.high
		default:
			return n.val, true
		}
	}
	return v, false
}

// Drop: P15.1.
func (m *Map[K, V]) Drop(k K) bool {
	if _, had := m.Get(k); !had {
		return false
	}
	m.top = m.top.without(m.order, k)
	m.many--
	return true
}

// Len: P15.1.
func (m *Map[K, V]) Len() int {
	if m == nil {
		return 0
	}
	return m.many
}

// All: P15.2.
func (m *Map[K, V]) All() iter.Seq2[K, V] {
	return func(yield func(K, V) bool) {
		if m != nil {
			m.top.rising(yield)
		}
	}
}

// From: P15.2.
func (m *Map[K, V]) From(k K) iter.Seq2[K, V] {
	return func(yield func(K, V) bool) {
		if m != nil {
			m.top.from(m.order, k, yield)
		}
	}
}

// Back: P15.2.
func (m *Map[K, V]) Back() iter.Seq2[K, V] {
	return func(yield func(K, V) bool) {
		if m != nil {
			m.top.falling(yield)
		}
	}
}

// Clone: P15.1.
func (m *Map[K, V]) Clone() *Map[K, V] {
	if m == nil {
		return nil
	}
	c := *m
	return &c
}

// ordered is the map's order; nil, of nil.
func (m *Map[K, V]) ordered() func(a, b K) int {
	if m == nil {
		return nil
	}
	return m.order
}

// Pair is two things of a key, and whether they are there.
type Pair[V any] struct {
	A   V
	B   V
	InA bool
	InB bool
}

// Join: P15.3.
func Join[K, V any](a, b *Map[K, V]) iter.Seq2[K, Pair[V]] {
	return func(yield func(K, Pair[V]) bool) {
		pairs(a, b).All()(yield)
	}
}

// pairs are what Join tells. They are put into a map anew, as b may have another order than a, and orders can't be held against each other.
func pairs[K, V any](a, b *Map[K, V]) *Map[K, Pair[V]] {
	order := a.ordered()
	if order == nil {
		order = b.ordered()
	}
	both := New[K, Pair[V]](order)
	for k, v := range a.All() {
		both.Put(k, Pair[V]{A: v, InA: true})
	}
	for k, v := range b.All() {
		p, _ := both.Get(k)
		if p.InB { // a's order holds it for one with a key of b ahead of it
			continue
		}
		p.B, p.InB = v, true
		both.Put(k, p)
	}
	return both
}

// Keys: P15.2.
func Keys[K, V any](m *Map[K, V]) []K {
	var l []K
	for k := range m.All() {
		l = append(l, k)
	}
	return l
}

// Filter: P15.2. By no want nothing is wanted.
func Filter[K, V any](m *Map[K, V], want func(k K, v V) bool) *Map[K, V] {
	out := New[K, V](m.ordered())
	if want == nil {
		return out
	}
	for k, v := range m.All() {
		if want(k, v) {
			out.Put(k, v)
		}
	}
	return out
}
