package bag

import (
	"lockstep/api"
	"lockstep/beside"
)

// groups is the rows side by side of which one row each is answered; and the least error of what they are grouped by, and of items in rows that are in no group for that.
func (s *scene) groups(x *api.Stmt, sees beside.Sight, items []beside.Item, held []beside.Rows) ([][]beside.Rows, api.Errno) {
	if len(x.Group) > 0 {
		return grouped(s.Groups(x.Group, sees), items, held)
	}
	if beside.HasAgg(items) {
		return [][]beside.Rows{held}, api.OK
	}
	each := make([][]beside.Rows, 0, len(held))
	for i := range held {
		each = append(each, held[i:i+1:i+1])
	}
	return each, api.OK
}

func grouped(by *beside.Groups, items []beside.Item, held []beside.Rows) ([][]beside.Rows, api.Errno) {
	var groups [][]beside.Rows
	least := api.OK
	for _, rows := range held {
		no, why := by.Of(rows)
		if why != api.OK {
			least = beside.Lesser(least, beside.Lesser(why, beside.ErrorOf(items, rows)))
			continue
		}
		if no == len(groups) {
			groups = append(groups, nil)
		}
		groups[no] = append(groups[no], rows)
	}
	return groups, least
}
