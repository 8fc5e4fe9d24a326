package trie

import (
	"slices"
	"testing"

	"herald/api"
)

// shape is the tree as the lengths of its keys, each ahead of its kids', with -1 for a kid that is not there.
func (n *node[V]) shape() []int {
	if n == nil {
		return []int{-1}
	}
	l := []int{n.length}
	for _, kid := range n.kids {
		l = append(l, kid.shape()...)
	}
	return l
}

// spare counts the nodes that need not be: without a value, and without two kids.
func (n *node[V]) spare() int {
	if n == nil {
		return 0
	}
	found := n.kids[0].spare() + n.kids[1].spare()
	if !n.has && (n.kids[0] == nil || n.kids[1] == nil) {
		found++
	}
	return found
}

// TestP3_4NothingIsLeft: what is taken away leaves no node behind, so that the tree is the same as one in which it never was.
func TestP3_4NothingIsLeft(t *testing.T) {
	var l []api.Prefix
	for i := range 64 {
		// Five is odd, so all six-bit numbers come, in an order of their own.
		n := byte(5 * i)
		l = append(l, api.Prefix{Fam: 1 + 2*(i%2), Addr: string([]byte{n << 2, 0, 0, 0}), Len: 6 + i%3})
	}
	for part := range 5 {
		x, y := New[int](), New[int]()
		for i, p := range l {
			x.Set(p, i)
		}
		for i, p := range l {
			if i%5 != part {
				x.Del(p)
			} else {
				y.Set(p, i)
			}
			if n := x.root.spare(); n != 0 {
				t.Fatalf("%d nodes are left behind %#v", n, p)
			}
		}
		if got, want := x.root.shape(), y.root.shape(); !slices.Equal(got, want) {
			t.Errorf("the tree is %v, not %v", got, want)
		}
		for _, p := range l {
			y.Del(p)
		}
		if y.root != nil {
			t.Error("a tree is left without values")
		}
	}
}
