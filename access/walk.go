package access

import "smartcard/api"

// The nesting and the number of nodes up to which the document's bound promises anything. Without these limits, a condition that contains itself would never be at its end.
const (
	maxLevels = 1 << 16
	maxNodes  = 1<<31 - 1
)

// walk is a walk through the nodes of conditions, of any size.
type walk struct {
	nodes, depth int // the number of nodes so far, and the greatest depth
}

// enter takes note of a node; it reports whether the node is still within the limits.
func (w *walk) enter(depth int) bool {
	w.nodes++
	w.depth = max(w.depth, depth)
	return depth <= maxLevels && w.nodes <= maxNodes
}

// valid reports whether all nodes of a condition are valid, as far as the limits reach.
func (w *walk) valid(c api.Cond, depth int) bool {
	if !w.enter(depth) {
		return true
	}
	if !validNode(c) {
		return false
	}
	for _, kid := range c.Kids {
		if !w.valid(kid, depth+1) {
			return false
		}
	}
	return true
}

// node is a condition without its kids.
type node struct{ op, n, kids int }

// same reports whether two conditions are equal; beyond the limits they are not.
func (w *walk) same(a, b api.Cond, depth int) bool {
	if !w.enter(depth) || (node{a.Op, a.N, len(a.Kids)}) != (node{b.Op, b.N, len(b.Kids)}) {
		return false
	}
	for i, kid := range a.Kids {
		if !w.same(kid, b.Kids[i], depth+1) {
			return false
		}
	}
	return true
}
