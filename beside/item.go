package beside

import (
	"slices"

	"lockstep/api"
)

// Item is something that a SELECT answers, of rows side by side that are a group.
type Item struct {
	Agg            string
	Star, Distinct bool
	Term           Term
}

// Items is what a SELECT answers.
func (s *Scene) Items(l []api.Item, v Sight) []Item {
	items := make([]Item, 0, len(l))
	for _, m := range l {
		if m.Agg != "" && m.Star { // its expression plays no part
			items = append(items, Item{Agg: m.Agg, Star: true})
			continue
		}
		items = append(items, Item{Agg: m.Agg, Distinct: m.Distinct, Term: s.Term(m.Expr, v)})
	}
	return items
}

// HasAgg tells whether one of the items is an aggregate.
func HasAgg(items []Item) bool {
	return slices.ContainsFunc(items, func(m Item) bool { return m.Agg != "" })
}

// ErrorOf is the least error that items have in rows side by side by themselves.
func ErrorOf(items []Item, rows Rows) api.Errno {
	least := api.OK
	for i := range items {
		if !items[i].Star {
			_, why := items[i].Term.Of(rows)
			least = Lesser(least, why)
		}
	}
	return least
}

// maxGroup is by how many expressions a SELECT may be grouped.
const maxGroup = 16

// Groups gives numbers, from 0 on, to groups of rows side by side, in the order in which these first come.
type Groups struct {
	by     []Term
	values naming[api.Value]
	keys   naming[groupKey]
}

// Groups is of what a SELECT is grouped by. (By nothing: all rows are one group.)
func (s *Scene) Groups(l []api.Expr, v Sight) *Groups {
	return &Groups{s.Terms(l, v), naming[api.Value]{}, naming[groupKey]{}}
}

// Of is the number of the rows' group.
func (g *Groups) Of(rows Rows) (int, api.Errno) {
	key, why := g.keyOf(rows)
	if why != api.OK {
		return 0, why
	}
	return int(g.keys.of(key)), api.OK
}

// groupKey is what rows side by side are grouped by. Numbers stand for the values, which would be too great for a key of all that there may be.
type groupKey [maxGroup]int32

// keyOf is the same for rows side by side just if they are of one group: what expressions come to has nothing that its type does not name, so that two values are the same just if they are as structs.
func (g *Groups) keyOf(rows Rows) (groupKey, api.Errno) {
	var key groupKey
	least := api.OK
	for i := range g.by {
		v, why := g.by[i].Of(rows)
		least = Lesser(least, why)
		key[i] = g.values.of(v)
	}
	return key, least
}

// naming gives numbers to things, in the order in which they first come.
type naming[K comparable] map[K]int32

func (n naming[K]) of(k K) int32 {
	no, is := n[k]
	if !is {
		no = int32(len(n))
		n[k] = no
	}
	return no
}
