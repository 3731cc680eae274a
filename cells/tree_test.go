package cells

import (
	"math/rand"
	"strconv"
	"testing"

	"tessera/api"
)

// sound fails if a tree is out of order, miscounted or heavier on one side than may be.
func sound(t *testing.T, n *node) {
	t.Helper()
	if n == nil {
		return
	}
	a, b := n.left.weight(), n.right.weight()
	if a > heavy*b || b > heavy*a || n.size != a+b-1 {
		t.Fatalf("a tree of %d with %d and %d", n.size, a-1, b-1)
	}
	if n.left != nil && Cmp(n.left.cell, n.cell) >= 0 || n.right != nil && Cmp(n.cell, n.right.cell) >= 0 {
		t.Fatalf("out of order at %v", n.cell)
	}
	sound(t, n.left)
	sound(t, n.right)
}

// P7.1: whatever the order in which cells come no side of the tree grows too heavy, so
// that every call is quick; the trees that were stay as they were.
func TestTree(t *testing.T) {
	r := rand.New(rand.NewSource(7))
	for what, key := range map[string]func(int) int{
		"rising":  func(i int) int { return 1000 + i },
		"falling": func(i int) int { return 2000 - i },
		"inwards": func(i int) int { return 5000 + (i%2*2-1)*(1000-i) },
		"outward": func(i int) int { return 5000 + (i%2*2-1)*i },
		"drawn":   func(int) int { return 1000 + r.Intn(1000) },
	} {
		t.Run(what, func(t *testing.T) {
			var n *node
			for i := range 400 {
				before, count := n, n.count()
				n = n.with(api.Cell{Key: strconv.Itoa(key(i)), Time: 1})
				sound(t, n)
				sound(t, before)
				if before.count() != count {
					t.Fatalf("a tree of %d came to be one of %d", count, before.count())
				}
			}
		})
	}
}

// P7.3: a tree that is grown from a list is sound, and stays so.
func TestGrown(t *testing.T) {
	var list []api.Cell
	for i := range 200 {
		n := grown(list)
		sound(t, n)
		if n.count() != len(list) {
			t.Fatalf("%d of %d", n.count(), len(list))
		}
		for j := range 30 {
			n = n.with(api.Cell{Key: "5", Time: uint64(1 + j)})
			sound(t, n)
		}
		list = append(list, api.Cell{Key: strconv.Itoa(1000 + 10*i), Time: 1})
	}
}
