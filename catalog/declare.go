package catalog

import (
	"slices"

	"lockstep/api"
	"lockstep/kept"
)

// declare takes a declaration in, beside those ahead of it.
func (c *Catalog) declare(d *api.Decl) {
	if d.Table.Name != "" {
		c.tables[d.Table.Name] = c.table(d)
	} else {
		c.procs[d.Proc.Name] = c.proc(d)
	}
}

func (c *Catalog) table(d *api.Decl) api.Table {
	t := kept.Table(&d.Table)
	_, there := c.tables[t.Name]
	refuse(there || namedTwice(&t), d.At, api.ErrTable)
	refuse(t.Keys[0].Name == "", d.At, api.ErrKey)
	for i := range t.Keys {
		t.Keys[i].Cols = keyColumns(&t, d, i)
	}
	t.Part = columnOf(&t, d.Part)
	refuse(d.Part != "" && !canPart(&t), d.At, api.ErrPart)
	// The partition's column is one of the primary key's.
	for _, col := range t.Keys[0].Cols {
		t.Cols[col].NotNull = true
	}
	if t.Most == 0 {
		t.Most = api.MaxRows
	}
	return t
}

// namedTwice tells whether two columns or two keys have one name. (That of the primary key is taken, even if there is none.)
func namedTwice(t *api.Table) bool {
	return hasTwice(t.Cols, columnName) || hasTwice(t.Keys, keyName) ||
		slices.ContainsFunc(t.Keys[1:], func(k api.Key) bool { return k.Name == "primary" })
}

// keyColumns is the columns of a key by their numbers.
func keyColumns(t *api.Table, d *api.Decl, key int) []int {
	cols := make([]int, 0, len(d.Cols[key]))
	for _, name := range d.Cols[key] {
		col := columnOf(t, name)
		refuse(col < 0 || slices.Contains(cols, col), d.At, api.ErrKey)
		cols = append(cols, col)
	}
	return cols
}

// canPart tells whether a table can be partitioned by its Part: two rows of one key must not lie in two partitions.
func canPart(t *api.Table) bool {
	isOpen := func(k api.Key) bool { return k.Unique && !slices.Contains(k.Cols, t.Part) }
	return t.Part >= 0 && !slices.ContainsFunc(t.Keys, isOpen)
}

// columnOf is the number of a table's column, below 0 if there is none of that name.
func columnOf(t *api.Table, name string) int {
	return slices.IndexFunc(t.Cols, func(c api.Column) bool { return c.Name == name })
}

func (c *Catalog) proc(d *api.Decl) api.Proc {
	p := kept.Proc(&d.Proc)
	_, there := c.procs[p.Name]
	refuse(there || hasTwice(p.Params, columnName), d.At, api.ErrTable)
	isPart := func(param api.Column) bool { return param.Name == p.Part }
	refuse(p.Part != "" && !slices.ContainsFunc(p.Params, isPart), d.At, api.ErrPart)
	s := sight{tables: c.tables, params: columns("", p.Params)}
	for i := range p.Steps {
		s.step(&p.Steps[i])
	}
	return p
}

func (s *sight) step(x *api.Step) {
	switch x.Kind {
	case api.Let:
		s.let(x)
	case api.Abort:
		s.condition(&x.Cond, nil)
	default:
		s.answer(&x.Stmt)
	}
}

// let is a parameter for the steps behind it.
func (s *sight) let(x *api.Step) {
	isThere := func(param api.Col) bool { return param.Name == x.Name }
	refuse(slices.ContainsFunc(s.params, isThere), x.At, api.ErrTable)
	cols := s.answer(&x.Stmt)
	refuse(len(cols) != 1 || cols[0].Type == api.Null, x.At, api.ErrArg)
	s.params = append(s.params, api.Col{Name: x.Name, Type: cols[0].Type})
}

// hasTwice tells whether two of a list have one name. (What is handed in as parameters may be a long list, so names are not held against each other one by one.)
func hasTwice[T any](l []T, name func(x *T) string) bool {
	places := map[string]int{}
	for i := range l {
		places[name(&l[i])] = i
	}
	return len(places) < len(l)
}

func columnName(c *api.Column) string { return c.Name }

func keyName(k *api.Key) string { return k.Name }

func colName(c *api.Col) string { return c.Name }
