package sorted

import (
	"cmp"
	"math/rand"
	"testing"
)

// uneven is the first node whose height is told wrong, or of which one side is taller by more than slack.
func uneven(n *node[int, int]) *node[int, int] {
	if n == nil {
		return nil
	}
	low, high := n.low.height(), n.high.height()
	if n.tall != 1+max(low, high) || max(low, high)-min(low, high) > slack {
		return n
	}
	if u := uneven(n.low); u != nil {
		return u
	}
	return uneven(n.high)
}

// TestNodesStayLevel: else a long row of keys in order would be gone through one by one, each time.
func TestNodesStayLevel(t *testing.T) {
	if (*node[int, int])(nil).height() != 0 {
		t.Fatal("nothing has a height")
	}
	dice := rand.New(rand.NewSource(5))
	for name, key := range map[string]func(i int) int{
		"rising":  func(i int) int { return i },
		"falling": func(i int) int { return -i },
		"inwards": func(i int) int { return (i%2*2 - 1) * (1000 - i) },
		"mixed":   func(int) int { return dice.Intn(1000) },
	} {
		m := New[int, int](cmp.Compare[int])
		for i := range 600 {
			m.Put(key(i), i)
			if uneven(m.top) != nil {
				t.Fatal(name, "not level when put", i)
			}
		}
		for i := range 900 {
			m.Drop(key(i * 7 % 600))
			if uneven(m.top) != nil {
				t.Fatal(name, "not level when dropped", i)
			}
		}
	}
}

// TestMapsDoNotChangeWhatTheyShare: a clone's nodes stay as they are, whatever is done to the map.
func TestMapsDoNotChangeWhatTheyShare(t *testing.T) {
	m := New[int, int](cmp.Compare[int])
	for i := range 50 {
		m.Put(i, i)
	}
	c := m.Clone()
	top := *c.top
	for i := range 50 {
		m.Put(i, -1)
		m.Put(i+100, i)
		m.Drop(i)
	}
	if *c.top != top || c.Len() != 50 {
		t.Fatal("the clone is changed")
	}
	want := 0
	for k, v := range c.All() {
		if k != want || v != want {
			t.Fatal(k, v)
		}
		want++
	}
}
