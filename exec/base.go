package exec

import (
	"slices"

	"lockstep/api"
	"lockstep/catalog"
	"lockstep/table"
)

// Base is tables that a procedure runs on.
type Base struct {
	catalog *catalog.Catalog
	tables  []*table.Table
	done    []done // what changed something, and stands
}

// done is where the table that a statement changed stood ahead of it.
type done struct {
	table *table.Table
	mark  int
}

// New: of such tables; Run, Mark, Back as api.Base has them; Tables is them.
func New(c *catalog.Catalog, l []*table.Table) (*Base, api.Errno) {
	if why := Check(c, l); why != api.OK {
		return nil, why
	}
	return &Base{catalog: c, tables: slices.Clone(l)}, api.OK
}

func (b *Base) Run(x api.Stmt, params []api.Col, args api.Row) ([]api.Row, api.Errno) {
	ahead := b.stands(&x)
	rows, why := Do(b.catalog, b.tables, x, params, args)
	if why == api.OK && x.Kind != api.Select {
		b.done = append(b.done, ahead)
	}
	return rows, why
}

func (b *Base) Mark() int { return len(b.done) }

func (b *Base) Back(mark int) api.Errno {
	if mark < 0 || mark > len(b.done) {
		return api.ErrArg
	}
	for _, d := range slices.Backward(b.done[mark:]) {
		d.table.Back(d.mark)
	}
	b.done = b.done[:mark]
	return api.OK
}

func (b *Base) Tables() []*table.Table { return slices.Clone(b.tables) }

// stands is where the table stands that a statement may change, if there is one.
func (b *Base) stands(x *api.Stmt) done {
	isMeant := func(t *table.Table) bool { return t.Form().Name == x.Table }
	i := slices.IndexFunc(b.tables, isMeant)
	if i < 0 {
		return done{}
	}
	return done{b.tables[i], b.tables[i].Mark()}
}
