package cells

import "tessera/api"

// node is a tree of cells in order. It is never changed: another cell makes another tree,
// which has most of its nodes in common with this one.
type node struct {
	cell        api.Cell
	left, right *node
	size        int // how many cells the tree has
}

// No side of a tree weighs more than heavy times the other one. A side that came to be
// heavier is turned once, or twice where its inner part weighs inner times its outer one.
const (
	heavy = 3
	inner = 2
)

func (n *node) count() int {
	if n == nil {
		return 0
	}
	return n.size
}

// weight is one more than the count, so that a tree of none can be weighed too.
func (n *node) weight() int { return n.count() + 1 }

// joined is the tree of a cell with what stands ahead of it and behind it.
func joined(left *node, cell api.Cell, right *node) *node {
	return &node{cell, left, right, left.count() + 1 + right.count()}
}

// balanced is joined, turned if one side is too heavy by the one cell that came to it.
func balanced(left *node, cell api.Cell, right *node) *node {
	switch {
	case right.weight() > heavy*left.weight():
		return turnedLeft(left, cell, right)
	case left.weight() > heavy*right.weight():
		return turnedRight(left, cell, right)
	}
	return joined(left, cell, right)
}

func turnedLeft(left *node, cell api.Cell, right *node) *node {
	if mid := right.left; mid.weight() >= inner*right.right.weight() {
		return joined(joined(left, cell, mid.left), mid.cell, joined(mid.right, right.cell, right.right))
	}
	return joined(joined(left, cell, right.left), right.cell, right.right)
}

func turnedRight(left *node, cell api.Cell, right *node) *node {
	if mid := left.right; mid.weight() >= inner*left.left.weight() {
		return joined(joined(left.left, left.cell, mid.left), mid.cell, joined(mid.right, cell, right))
	}
	return joined(left.left, left.cell, joined(left.right, cell, right))
}

// with is the tree with a cell, in the place of one with the same key and time.
func (n *node) with(cell api.Cell) *node {
	if n == nil {
		return joined(nil, cell, nil)
	}
	switch Cmp(cell, n.cell) {
	case -1:
		return balanced(n.left.with(cell), n.cell, n.right)
	case 1:
		return balanced(n.left, n.cell, n.right.with(cell))
	}
	return joined(n.left, cell, n.right)
}

// grown is the tree of a list of cells in order.
func grown(l []api.Cell) *node {
	if len(l) == 0 {
		return nil
	}
	mid := len(l) / 2
	return joined(grown(l[:mid]), l[mid], grown(l[mid+1:]))
}

// from is where the first cell stands that is at or behind a bound.
func (n *node) from(bound api.Cell) *node {
	var found *node
	for n != nil {
		if Cmp(n.cell, bound) < 0 {
			n = n.right
		} else {
			found, n = n, n.left
		}
	}
	return found
}

// walk visits the cells that are at or behind the bound, in order, till visit says false,
// and says whether it came to the end. Visit may move the bound onwards: what is ahead of
// it then is passed over without a look at each.
func (n *node) walk(bound *api.Cell, visit func(api.Cell) bool) bool {
	if n == nil {
		return true
	}
	if Cmp(n.cell, *bound) >= 0 && !n.left.walk(bound, visit) {
		return false
	}
	if Cmp(n.cell, *bound) >= 0 && !visit(n.cell) {
		return false
	}
	return n.right.walk(bound, visit)
}
