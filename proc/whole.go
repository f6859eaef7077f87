package proc

import (
	"slices"

	"lockstep/api"
	"lockstep/bag"
	"lockstep/catalog"
	"lockstep/kept"
	"lockstep/value"
)

// Whole is tables as a base.
type Whole struct {
	catalog *catalog.Catalog
	data    api.Data
	done    []done // what changed something, and stands
}

// done is what a statement did to a table: from a place on it put so many rows where others had stood.
type done struct {
	table, at int
	went      []api.Row
	came      int
}

// Over: of these tables; Data is them as they are.
func Over(c *catalog.Catalog, d api.Data) (*Whole, api.Errno) {
	if why := bag.Check(c, d); why != api.OK {
		return nil, why
	}
	return &Whole{catalog: c, data: kept.Data(d)}, api.OK
}

func (w *Whole) Run(x api.Stmt, params []api.Col, args api.Row) ([]api.Row, api.Errno) {
	rows, behind, why := bag.Run(w.catalog, w.data, x, params, args)
	if why == api.OK && x.Kind != api.Select {
		isMeant := func(form api.Table) bool { return form.Name == x.Table }
		table := slices.IndexFunc(w.catalog.Tables(), isMeant)
		w.become(table, behind[table])
	}
	return rows, why
}

func (w *Whole) Mark() int { return len(w.done) }

func (w *Whole) Back(mark int) api.Errno {
	if mark < 0 || mark > len(w.done) {
		return api.ErrArg
	}
	for _, d := range slices.Backward(w.done[mark:]) {
		w.data[d.table] = slices.Replace(w.data[d.table], d.at, d.at+d.came, d.went...)
	}
	w.done = slices.Delete(w.done, mark, len(w.done))
	return api.OK
}

func (w *Whole) Data() api.Data { return kept.Data(w.data) }

// become lets a table have other rows. Of those that it had only such are kept as do not stand at either end of both lists: most statements change few of many.
func (w *Whole) become(table int, rows []api.Row) {
	stood := w.data[table]
	at := 0
	for at < min(len(stood), len(rows)) && value.Rows(stood[at], rows[at]) == 0 {
		at++
	}
	came, went := rows[at:], stood[at:]
	for len(came) > 0 && len(went) > 0 && value.Rows(came[len(came)-1], went[len(went)-1]) == 0 {
		came, went = came[:len(came)-1], went[:len(went)-1]
	}
	w.data[table] = rows
	w.done = append(w.done, done{table: table, at: at, went: kept.Rows(went), came: len(came)})
}
