package sorted

// slack is by how much one side of a node may be taller than the other one: by more than 1, so that fewer nodes are made anew.
const slack = 2

// item is a key and its thing.
type item[K, V any] struct {
	key K
	val V
}

// node is an item, with those below it and above it. It is never changed, as maps and iterators may share it; nil has nothing.
type node[K, V any] struct {
	item[K, V]
	low  *node[K, V]
	high *node[K, V]
	tall int
}

func (n *node[K, V]) height() int {
	if n == nil {
		return 0
	}
	return n.tall
}

// hang makes a node of two sides that are about as tall.
func hang[K, V any](low *node[K, V], it item[K, V], high *node[K, V]) *node[K, V] {
	return &node[K, V]{it, low, high, 1 + max(low.height(), high.height())}
}

// level makes a node of two sides, of which one item was put to or taken from one.
func level[K, V any](low *node[K, V], it item[K, V], high *node[K, V]) *node[K, V] {
	switch {
	case low.height() > high.height()+slack:
		if low.low.height() >= low.high.height() {
			return hang(low.low, low.item, hang(low.high, it, high))
		}
		mid := low.high
		return hang(hang(low.low, low.item, mid.low), mid.item, hang(mid.high, it, high))
	case high.height() > low.height()+slack:
		if high.high.height() >= high.low.height() {
			return hang(hang(low, it, high.low), high.item, high.high)
		}
		mid := high.low
		return hang(hang(low, it, mid.low), mid.item, hang(mid.high, high.item, high.high))
	}
	return hang(low, it, high)
}

// with is the node with an item; of a key that is there, it has the new thing.
func (n *node[K, V]) with(order func(a, b K) int, it item[K, V]) *node[K, V] {
	if n == nil {
		return hang(nil, it, nil)
	}
	c := order(it.key, n.key)
	switch {
	case c < 0:
		return level(n.low.with(order, it), n.item, n.high)
	case c > 0:
		return level(n.low, n.item, n.high.with(order, it))
	}
	return hang(n.low, item[K, V]{n.key, it.val}, n.high)
}

// without is the node without a key.
func (n *node[K, V]) without(order func(a, b K) int, k K) *node[K, V] {
	if n == nil {
		return nil
	}
	c := order(k, n.key)
	switch {
	case c < 0:
		return level(n.low.without(order, k), n.item, n.high)
	case c > 0:
		return level(n.low, n.item, n.high.without(order, k))
	}
	if n.high == nil {
		return n.low
	}
	first, rest := n.high.split()
	return level(n.low, first, rest)
}

// split takes the lowest item from a node that isn't nil.
func (n *node[K, V]) split() (item[K, V], *node[K, V]) {
	if n.low == nil {
		return n.item, n.high
	}
	first, rest := n.low.split()
	return first, level(rest, n.item, n.high)
}

// rising tells all, until yield wants no more; then it is false.
func (n *node[K, V]) rising(yield func(K, V) bool) bool {
	return n == nil || n.low.rising(yield) && yield(n.key, n.val) && n.high.rising(yield)
}

// falling is as rising, from the other end.
func (n *node[K, V]) falling(yield func(K, V) bool) bool {
	return n == nil || n.high.falling(yield) && yield(n.key, n.val) && n.low.falling(yield)
}

// from is as rising, but for what is below k.
func (n *node[K, V]) from(order func(a, b K) int, k K, yield func(K, V) bool) bool {
	if n == nil {
		return true
	}
	if order(n.key, k) < 0 {
		return n.high.from(order, k, yield)
	}
	return n.low.from(order, k, yield) && yield(n.key, n.val) && n.high.rising(yield)
}
