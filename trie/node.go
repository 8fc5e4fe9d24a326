package trie

import (
	"math/bits"

	"herald/api"
	"herald/prim"
)

// A key's row has the family in its first byte, the distinguisher in the next eight, then the address.
const (
	rdAt   = 1
	rdSize = 8
	addrAt = rdAt + rdSize
)

// key is a prefix as one row of bits, of which the first ones count. So one tree holds all families and distinguishers, and to go down it bit by bit is to go through them in order.
type key struct {
	row    string
	length int
}

// keyOf is the key of a prefix that may be.
func keyOf(p api.Prefix) key {
	row := make([]byte, addrAt, addrAt+len(p.Addr))
	row[0] = byte(p.Fam)
	for i := range rdSize {
		row[rdAt+i] = byte(p.RD >> (8 * (rdSize - 1 - i)))
	}
	return key{string(append(row, p.Addr...)), 8*addrAt + p.Len}
}

// prefix is what the key was made of.
func (k key) prefix() api.Prefix {
	rd := uint64(0)
	for i := range rdSize {
		rd = rd<<8 | uint64(k.row[rdAt+i])
	}
	return api.Prefix{Fam: int(k.row[0]), RD: rd, Addr: k.row[addrAt:], Len: k.length - 8*addrAt}
}

// bit is the bit n of the row; 0 behind its end.
func (k key) bit(n int) int { return prim.Bit(k.row, n) }

// common counts the first bits in which two keys are the same.
func common(a, b key) int {
	most := min(a.length, b.length)
	for i := 0; 8*i < most; i++ {
		if differ := a.row[i] ^ b.row[i]; differ != 0 {
			return min(most, 8*i+bits.LeadingZeros8(differ))
		}
	}
	return most
}

// node is a place of the tree: all keys below it begin with its own, and go on with the bit of the kid under which they hang. It has a value, or both kids, so that the tree is the same in whatever order it came to be.
//
// A node is not changed once it hangs in a tree: iterators and copies go on to use it.
type node[V any] struct {
	key
	has   bool
	value V
	kids  [2]*node[V]
}

// set answers the tree in which k has the value v.
func (n *node[V]) set(k key, v V) *node[V] {
	if n == nil {
		return &node[V]{key: k, has: true, value: v}
	}
	same := common(n.key, k)
	at := *n
	if same < n.length {
		// k ends, or parts from n's key, ahead of n: a new node stands there.
		at = node[V]{key: key{k.row, same}}
		at.kids[n.bit(same)] = n
	}
	if same == k.length {
		// The row of a node without a value has bits of another key behind its own ones, so it is k's now.
		at.key, at.has, at.value = k, true, v
		return &at
	}
	kid := &at.kids[k.bit(same)]
	*kid = (*kid).set(k, v)
	return &at
}

// del answers the tree in which k, that has a value, has none.
func (n *node[V]) del(k key) *node[V] {
	at := *n
	if n.length == k.length {
		var none V
		at.has, at.value = false, none
	} else {
		kid := &at.kids[k.bit(n.length)]
		*kid = (*kid).del(k)
	}
	switch {
	case at.has || at.kids[0] != nil && at.kids[1] != nil:
		return &at
	case at.kids[0] != nil:
		return at.kids[0]
	}
	return at.kids[1]
}

// match is the lowest node with a value whose key k begins with; nil, if there is none.
func (n *node[V]) match(k key) *node[V] {
	var best *node[V]
	for n != nil && common(n.key, k) == n.length {
		if n.has {
			best = n
		}
		n = n.kids[k.bit(n.length)]
	}
	return best
}

// under is the highest node whose key begins with k; nil, if there is none.
func (n *node[V]) under(k key) *node[V] {
	for n != nil && n.length < k.length {
		n = n.kids[k.bit(n.length)]
	}
	// The way down asked one bit at each node alone; here all of k's are asked.
	if n == nil || common(n.key, k) < k.length {
		return nil
	}
	return n
}
