package tree

import (
	"cmp"
	"iter"
)

// node is a tree: a key, its value, and the trees of the lesser keys and of the greater ones; nil is the tree of nothing. No
// node is ever changed: what is to be another tree has new nodes from its root to the place, and shares all others.
type node[K cmp.Ordered, V any] struct {
	key         K
	val         V
	size        int
	left, right *node[K, V]
}

// count is how many keys a tree has.
func (n *node[K, V]) count() int {
	if n == nil {
		return 0
	}
	return n.size
}

// weight is one more than there are keys, so that a tree of nothing can be held against others.
func (n *node[K, V]) weight() int { return n.count() + 1 }

// A side of a node has at most so many times the other one's weight; where it is lifted, its inner side must have less than
// so many times the outer one's, or is lifted itself. By these two numbers a key more, or less, is made good by one lift.
const (
	mostSide  = 3
	mostInner = 2
)

// over is a node's key and value over other sides.
func (n *node[K, V]) over(left, right *node[K, V]) *node[K, V] {
	return &node[K, V]{n.key, n.val, left.count() + 1 + right.count(), left, right}
}

// level is as over, but lifts a side that a key too many, or one too few on the other, made too heavy.
func (n *node[K, V]) level(left, right *node[K, V]) *node[K, V] {
	switch {
	case right.weight() > mostSide*left.weight():
		if mid := right.left; mid.weight() >= mostInner*right.right.weight() {
			return mid.over(n.over(left, mid.left), right.over(mid.right, right.right))
		}
		return right.over(n.over(left, right.left), right.right)
	case left.weight() > mostSide*right.weight():
		if mid := left.right; mid.weight() >= mostInner*left.left.weight() {
			return mid.over(left.over(left.left, mid.left), n.over(mid.right, right))
		}
		return left.over(left.left, n.over(left.right, right))
	}
	return n.over(left, right)
}

// with is the tree in which a key has a value.
func (n *node[K, V]) with(key K, val V) *node[K, V] {
	switch {
	case n == nil:
		return &node[K, V]{key: key, val: val, size: 1}
	case key < n.key:
		return n.level(n.left.with(key, val), n.right)
	case key > n.key:
		return n.level(n.left, n.right.with(key, val))
	}
	return &node[K, V]{key, val, n.size, n.left, n.right}
}

// without is the tree in which a key is not there.
func (n *node[K, V]) without(key K) *node[K, V] {
	switch {
	case n == nil:
		return nil
	case key < n.key:
		return n.level(n.left.without(key), n.right)
	case key > n.key:
		return n.level(n.left, n.right.without(key))
	case n.right == nil:
		return n.left
	}
	next := n.right.first()
	return next.level(n.left, n.right.without(next.key))
}

// first is the node of the least key; there must be one.
func (n *node[K, V]) first() *node[K, V] {
	for n.left != nil {
		n = n.left
	}
	return n
}

// find is a key's value, and whether it is there.
func (n *node[K, V]) find(key K) (val V, is bool) {
	for n != nil {
		switch {
		case key < n.key:
			n = n.left
		case key > n.key:
			n = n.right
		default:
			return n.val, true
		}
	}
	return val, false
}

// from goes over what stands from a key on, by rising keys. What is made of the tree meanwhile is another one.
func (n *node[K, V]) from(key K) iter.Seq2[K, V] {
	return func(yield func(K, V) bool) { n.tell(key, yield) }
}

// tell is from; it tells whether to go on.
func (n *node[K, V]) tell(key K, yield func(K, V) bool) bool {
	if n == nil {
		return true
	}
	if key < n.key && !n.left.tell(key, yield) {
		return false
	}
	if key <= n.key && !yield(n.key, n.val) {
		return false
	}
	return n.right.tell(key, yield)
}
