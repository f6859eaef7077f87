package btree

import (
	"cmp"
	"iter"
	"slices"
	"sort"

	"lockstep/api"
	"lockstep/value"
)

// How many entries a node has: but the root may have fewer.
const (
	most  = 16
	least = most / 2
)

// entry is a key and a number.
type entry struct {
	key api.Row
	id  uint64
}

func order(a, b entry) int {
	return cmp.Or(value.Rows(a.key, b.key), cmp.Compare(a.id, b.id))
}

// node is entries in their order and, but in a leaf, ahead of each of them and behind the last one a kid, in which those lie that come there.
// Its lists are never changed once they are made: so trees, their clones and whoever goes through them may share it.
type node struct {
	entries []entry
	kids    []node
}

// asRoot is a node as the one above all others, one higher or lower, if it has too many entries or none any more.
func asRoot(n node) node {
	if len(n.entries) > most {
		left, middle, right := n.split()
		return node{entries: []entry{middle}, kids: []node{left, right}}
	}
	if len(n.entries) == 0 && len(n.kids) == 1 {
		return n.kids[0]
	}
	return n
}

// put is the node with an entry that it has not yet; it may have one entry too many.
func (n node) put(e entry) node {
	at, _ := slices.BinarySearchFunc(n.entries, e, order)
	if len(n.kids) == 0 {
		return node{entries: slices.Concat(n.entries[:at], []entry{e}, n.entries[at:])}
	}
	return n.with(at, at+1, n.kids[at].put(e))
}

// drop is the node without an entry that it has; it may have one entry too few.
func (n node) drop(e entry) node {
	at, here := slices.BinarySearchFunc(n.entries, e, order)
	if len(n.kids) == 0 {
		return node{entries: slices.Concat(n.entries[:at], n.entries[at+1:])}
	}
	if !here {
		return n.withLess(at, n.kids[at].drop(e))
	}
	// Something has to stand between the two kids: the last entry of the one ahead goes up.
	up := n.kids[at].last()
	n.entries = slices.Clone(n.entries)
	n.entries[at] = up
	return n.withLess(at, n.kids[at].drop(up))
}

func (n node) last() entry {
	for len(n.kids) > 0 {
		n = n.kids[len(n.kids)-1]
	}
	return n.entries[len(n.entries)-1]
}

// withLess is the node with another kid in a place, which is joined to the one beside it, if it has too few entries.
func (n node) withLess(at int, kid node) node {
	if len(kid.entries) >= least {
		return n.with(at, at+1, kid)
	}
	if at > 0 {
		return n.with(at-1, at+1, join(n.kids[at-1], n.entries[at-1], kid))
	}
	return n.with(at, at+2, join(kid, n.entries[at], n.kids[at+1]))
}

// with is the node with one kid for those from a place up to another, and for the entries between these; if that one has too many entries, it goes in as two.
func (n node) with(from, to int, kid node) node {
	kids, parted := []node{kid}, []entry(nil)
	if len(kid.entries) > most {
		left, middle, right := kid.split()
		kids, parted = []node{left, right}, []entry{middle}
	}
	return node{
		entries: slices.Concat(n.entries[:from], parted, n.entries[to-1:]),
		kids:    slices.Concat(n.kids[:from], kids, n.kids[to:]),
	}
}

// split is a node in two, and the entry between them.
func (n node) split() (left node, middle entry, right node) {
	at := len(n.entries) / 2
	left.entries, right.entries = cut(n.entries, at, at+1)
	if len(n.kids) > 0 {
		left.kids, right.kids = cut(n.kids, at+1, at+1)
	}
	return left, n.entries[at], right
}

// cut is what a list has ahead of one place and from another one on, each with memory of its own, so that neither holds on to what the other one is done with.
func cut[T any](list []T, end, start int) (ahead, behind []T) {
	return slices.Clone(list[:end]), slices.Clone(list[start:])
}

func join(left node, middle entry, right node) node {
	return node{
		entries: slices.Concat(left.entries, []entry{middle}, right.entries),
		kids:    slices.Concat(left.kids, right.kids),
	}
}

// reach is from which entry on a span's low holds, and from which on its high does not any more. In kids ahead of from and behind to no entry lies in the span.
func (n node) reach(s span) (from, to int) {
	from = sort.Search(len(n.entries), func(i int) bool { return s.low(n.entries[i]) })
	to = sort.Search(len(n.entries), func(i int) bool { return !s.high(n.entries[i]) })
	return from, to
}

// rising goes through the entries of a span in their order.
func (n node) rising(s span) iter.Seq[entry] {
	return func(yield func(entry) bool) { n.rise(s, yield) }
}

// falling goes through them from the last one on.
func (n node) falling(s span) iter.Seq[entry] {
	return func(yield func(entry) bool) { n.fall(s, yield) }
}

// rise tells whether it was let go on to the end, so that those above it stop where it was stopped.
func (n node) rise(s span, yield func(entry) bool) bool {
	from, to := n.reach(s)
	for i := from; i <= to; i++ {
		if len(n.kids) > 0 && !n.kids[i].rise(s, yield) {
			return false
		}
		if i < to && !yield(n.entries[i]) {
			return false
		}
	}
	return true
}

// fall tells the same of the other way.
func (n node) fall(s span, yield func(entry) bool) bool {
	from, to := n.reach(s)
	for i := to; i >= from; i-- {
		if i < to && !yield(n.entries[i]) {
			return false
		}
		if len(n.kids) > 0 && !n.kids[i].fall(s, yield) {
			return false
		}
	}
	return true
}
