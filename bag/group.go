package bag

import (
	"slices"

	"lockstep/api"
)

// maxGroup is by how many expressions a SELECT may be grouped.
const maxGroup = 16

// groups is the rows side by side of which one row each is answered; and the least error of what they are grouped by, and of items in rows that are in no group for that.
func (s *scene) groups(x *api.Stmt, sees sight, items []item, held []side) ([][]side, api.Errno) {
	if len(x.Group) > 0 {
		return grouped(s.terms(x.Group, sees), items, held)
	}
	isAgg := func(m item) bool { return m.agg != "" }
	if slices.ContainsFunc(items, isAgg) {
		return [][]side{held}, api.OK
	}
	each := make([][]side, 0, len(held))
	for i := range held {
		each = append(each, held[i:i+1:i+1])
	}
	return each, api.OK
}

func (s *scene) terms(l []api.Expr, sees sight) []term {
	terms := make([]term, 0, len(l))
	for _, e := range l {
		terms = append(terms, s.term(e, sees))
	}
	return terms
}

func grouped(by []term, items []item, held []side) ([][]side, api.Errno) {
	var groups [][]side
	least := api.OK
	values, keys := naming[api.Value]{}, naming[groupKey]{}
	for _, rows := range held {
		key, why := keyOf(by, rows, values)
		if why != api.OK {
			least = lesser(least, lesser(why, errorOf(items, rows)))
			continue
		}
		no := int(keys.of(key))
		if no == len(groups) {
			groups = append(groups, nil)
		}
		groups[no] = append(groups[no], rows)
	}
	return groups, least
}

// groupKey is what rows side by side are grouped by. Numbers stand for the values, which would be too great for a key of all that there may be.
type groupKey [maxGroup]int32

// keyOf is the same for rows side by side just if they are of one group: what expressions come to has nothing that its type does not name, so that two values are the same just if they are as structs.
func keyOf(by []term, rows side, values naming[api.Value]) (groupKey, api.Errno) {
	var key groupKey
	least := api.OK
	for i := range by {
		v, why := by[i].of(rows)
		least = lesser(least, why)
		key[i] = values.of(v)
	}
	return key, least
}

// naming gives numbers to things, in the order in which they first come.
type naming[K comparable] map[K]int32

func (n naming[K]) of(k K) int32 {
	no, is := n[k]
	if !is {
		no = int32(len(n))
		n[k] = no
	}
	return no
}
