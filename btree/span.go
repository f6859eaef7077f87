package btree

import (
	"slices"

	"lockstep/api"
	"lockstep/value"
)

// bound tells whether an entry lies on the right side of an end.
type bound func(e entry) bool

// span is entries that follow on one another: low holds of all entries from one on, high of all up to one.
type span struct{ low, high bound }

// between takes the ends out of the caller's memory, since what goes through a span may do so long after.
func between(b api.Bounds) span {
	low, high := slices.Clone(b.Low), slices.Clone(b.High)
	lowIn, highIn := b.LowIn, b.HighIn
	return span{
		low: func(e entry) bool {
			c := orderBegin(e.key, low)
			return len(low) == 0 || c > 0 || lowIn && c == 0
		},
		high: func(e entry) bool {
			c := orderBegin(e.key, high)
			return len(high) == 0 || c < 0 || highIn && c == 0
		},
	}
}

// onlyKey is the entries under a key, and under none that is longer.
func onlyKey(key api.Row) span {
	return span{
		low:  func(e entry) bool { return value.Rows(e.key, key) >= 0 },
		high: func(e entry) bool { return value.Rows(e.key, key) <= 0 },
	}
}

// onlyEntry is one entry, or none.
func onlyEntry(x entry) span {
	return span{
		low:  func(e entry) bool { return order(e, x) >= 0 },
		high: func(e entry) bool { return order(e, x) <= 0 },
	}
}

// orderBegin holds as many of a key's first values against an end as that has.
func orderBegin(key, end api.Row) int {
	return value.Rows(key[:min(len(key), len(end))], end)
}
