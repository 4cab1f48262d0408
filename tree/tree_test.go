package tree

import (
	"math/rand"
	"testing"
)

// sound: every node's size and height are as what stands beneath it, and no side is two levels higher.
func sound(t *testing.T, n *node[int, int]) (size, height int) {
	t.Helper()
	if n == nil {
		return 0, 0
	}
	a, low := sound(t, n.low)
	b, high := sound(t, n.high)
	if n.size != a+b+1 || n.height != max(low, high)+1 || low-high > 1 || high-low > 1 {
		t.Fatalf("size %d of %d and %d; height %d of %d and %d", n.size, a, b, n.height, low, high)
	}
	return n.size, n.height
}

func TestStaysBalanced(t *testing.T) {
	chance := rand.New(rand.NewSource(1))
	places := map[string]func(n int) int{
		"first":  func(n int) int { return 0 },
		"last":   func(n int) int { return n - 1 },
		"middle": func(n int) int { return n / 2 },
		"any":    func(n int) int { return chance.Intn(n) },
	}
	for in, insert := range places {
		for out, remove := range places {
			row := New[int, int]()
			for i := range 300 {
				row.Insert(insert(i+1), i, i)
				sound(t, row.top)
			}
			for i := 300; i > 0; i-- {
				row.Remove(remove(i))
				if size, _ := sound(t, row.top); size != i-1 {
					t.Fatalf("in %s, out %s: %d items, want %d", in, out, size, i-1)
				}
			}
		}
	}
}
