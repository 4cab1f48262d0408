package skip

import (
	"math/rand"
	"testing"
)

// sound: on every level, each link leads as far as it says, and the last one to just behind all items.
func sound(t *testing.T, row *List[int, int]) {
	t.Helper()
	places := map[*node[int, int]]int{row.head: 0}
	for n := row.head.next[0].to; n != nil; n = n.next[0].to {
		places[n] = len(places)
	}
	places[nil] = len(places)
	if places[nil] != row.size+1 {
		t.Fatalf("%d items, want %d", places[nil]-1, row.size)
	}
	for l := range levels {
		for n := row.head; n != nil; n = n.next[l].to {
			if way := n.next[l]; places[way.to]-places[n] != way.steps {
				t.Fatalf("level %d, from %d to %d: %d steps", l, places[n], places[way.to], way.steps)
			}
		}
	}
}

func TestLinksLeadAsFarAsTheySay(t *testing.T) {
	chance := rand.New(rand.NewSource(1))
	row := New[int, int]()
	sound(t, row)
	for step := range 3000 {
		if n := row.Len(); n > 0 && (chance.Intn(5) > 2 || n == 400) {
			row.Remove(chance.Intn(n))
		} else {
			row.Insert(chance.Intn(n+1), step, step)
		}
		sound(t, row)
	}
}

// TestFewAreAsked: rising, falling, and where only every second, third .. item stays, a search asks far fewer than all.
func TestFewAreAsked(t *testing.T) {
	for every := 1; every <= 8; every++ {
		row := New[int, int]()
		for i := range 400 * every {
			row.Insert(row.Len(), i, i)
			if i%every != 0 {
				row.Remove(row.Len() - 1)
			}
		}
		sum := 0
		for i := range 400 {
			at, same := row.Find(func(key int) int {
				sum++
				return i*every - key
			})
			if at != i || !same {
				t.Fatalf("every %d: %d is found at %d, %v", every, i*every, at, same)
			}
		}
		if sum > 400*30 {
			t.Errorf("every %d: %d asked for 400 searches", every, sum)
		}
	}
}

func TestHeights(t *testing.T) {
	var of [levels + 1]int
	for count := range uint64(1 << 12) {
		of[height(count)]++
	}
	if of[0] != 0 {
		t.Errorf("%d nodes have no level", of[0])
	}
	for h := 1; h < levels; h++ {
		if want := 1 << (12 - h); of[h] < want-2 || of[h] > want+2 {
			t.Errorf("%d nodes of height %d, want some %d", of[h], h, want)
		}
	}
	if h := height(0); h != levels { // where the count has gone round
		t.Errorf("height %d, want %d", h, levels)
	}
}
