package snapshot

import (
	"bytes"
	"slices"

	"lockstep/api"
	"lockstep/value"
)

// Same tells whether two snapshots are the same.
func Same(a, b api.Snap) bool {
	return a.No == b.No && bytes.Equal(a.More, b.More) && slices.EqualFunc(a.Tables, b.Tables, sameTable)
}

func sameTable(a, b api.Stored) bool {
	return sameForm(a.Form, b.Form) && a.Next == b.Next && slices.EqualFunc(a.Rows, b.Rows, sameKept)
}

func sameForm(a, b api.Table) bool {
	sameNumbers := max(a.Part, noPart) == max(b.Part, noPart) && a.Most == b.Most
	return a.Name == b.Name && sameNumbers && slices.Equal(a.Cols, b.Cols) && slices.EqualFunc(a.Keys, b.Keys, sameKey)
}

func sameKey(a, b api.Key) bool {
	return a.Name == b.Name && a.Unique == b.Unique && slices.Equal(a.Cols, b.Cols)
}

// sameKept holds values against each other by value's order, which is that of rowcode's bytes, and is one of the values that have no bytes, too.
func sameKept(a, b api.Kept) bool {
	return a.ID == b.ID && value.Rows(a.Row, b.Row) == 0
}
