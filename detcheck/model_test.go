package detcheck_test

import (
	"fmt"
	"slices"
	"strings"
	"testing"

	"lockstep/api"
	"lockstep/catalog"
	"lockstep/detcheck"
	"lockstep/expr"
)

// model tells what the chapter says, sentence by sentence: what can be reached from what is marked in a table of all columns beside each other.
type model struct {
	x     api.Stmt
	forms []api.Table
	into  api.Table
	cols  []api.Col
	first []int
	sides [][2]api.Expr
	froms []int // beside how many Froms each two sides stand
}

// modelOf is of a statement that the catalog does not refuse.
func modelOf(c *catalog.Catalog, x api.Stmt) *model {
	m := &model{x: x}
	add := func(as, name string) {
		form, _ := c.Table(name)
		m.first = append(m.first, len(m.cols))
		m.forms = append(m.forms, form)
		for _, col := range form.Cols {
			m.cols = append(m.cols, api.Col{Of: as, Name: col.Name, Type: col.Type})
		}
	}
	switch x.Kind {
	case api.Insert:
		m.into, _ = c.Table(x.Table)
	case api.Select:
		for i, f := range x.From {
			add(f.As, f.Table)
			if i > 0 {
				m.note(f.On)
			}
		}
		m.note(x.Where)
	default:
		add(x.Table, x.Table)
		m.note(x.Where)
	}
	return m
}

// note takes the equal sides of a condition in.
func (m *model) note(e api.Expr) {
	switch e.Op {
	case "and":
		m.note(e.Parts[0])
		m.note(e.Parts[1])
	case "=":
		m.sides = append(m.sides, [2]api.Expr{e.Parts[0], e.Parts[1]})
		m.froms = append(m.froms, len(m.forms))
	}
}

// place is that of the column that an expression is, beside so many Froms; -1, if it is none.
func (m *model) place(e api.Expr, froms int) int {
	cols := m.cols
	if froms < len(m.first) {
		cols = cols[:m.first[froms]]
	}
	found := -1
	for i, c := range cols {
		if e.Op == "column" && c.Name == e.Name && (e.Of == "" || e.Of == c.Of) {
			if found >= 0 {
				panic("a name of two columns")
			}
			found = i
		}
	}
	return found
}

// reached is the columns that can be come to from what begins, by conditions that may be gone by.
func (m *model) reached(begins func(e api.Expr, col api.Col) bool, goes func(a, b api.Col) bool) []int {
	n := len(m.cols)
	near := make([][]bool, n+1) // the last one is what begins
	for i := range near {
		near[i] = make([]bool, n+1)
	}
	link := func(i, j int) { near[i][j], near[j][i] = true, true }
	for k, s := range m.sides {
		a, b := m.place(s[0], m.froms[k]), m.place(s[1], m.froms[k])
		switch {
		case a >= 0 && b >= 0:
			if goes(m.cols[a], m.cols[b]) {
				link(a, b)
			}
		case a >= 0 && begins(s[1], m.cols[a]):
			link(a, n)
		case b >= 0 && begins(s[0], m.cols[b]):
			link(b, n)
		}
	}
	for k := range near {
		for i := range near {
			for j := range near {
				near[i][j] = near[i][j] || near[i][k] && near[k][j]
			}
		}
	}
	var l []int
	for i := range n {
		if near[i][n] {
			l = append(l, i)
		}
	}
	return l
}

// hasColumn tells whether an expression names one.
func hasColumn(e api.Expr) bool {
	return e.Op == "column" || slices.ContainsFunc(e.Parts, hasColumn)
}

// fixed is P17.1.
func (m *model) fixed() []int {
	return m.reached(func(e api.Expr, _ api.Col) bool { return !hasColumn(e) }, func(_, _ api.Col) bool { return true })
}

// ordered is the numbers of the items by whose names it is ordered.
func (m *model) ordered() []int {
	var l []int
	for i, item := range m.x.Items {
		for _, o := range m.x.Order {
			if item.Name == o.Name && item.Name != "" {
				l = append(l, i)
			}
		}
	}
	return l
}

// ways is P17.2: which of the four reasons hold for which a SELECT is settled.
func (m *model) ways() [4]bool {
	fixed, ordered := m.fixed(), m.ordered()
	hasAgg := slices.ContainsFunc(m.x.Items, func(i api.Item) bool { return i.Agg != "" })
	isGrouped := hasAgg || len(m.x.Group) > 0
	groups, froms, items := isGrouped, !isGrouped, m.x.Distinct
	for _, g := range m.x.Group {
		is := !hasColumn(g)
		is = is || slices.Contains(fixed, m.place(g, len(m.forms)))
		for _, i := range ordered {
			is = is || m.x.Items[i].Agg == "" && expr.Same(m.x.Items[i].Expr, g)
		}
		groups = groups && is
	}
	told := slices.Clone(fixed)
	for _, i := range ordered {
		if item := m.x.Items[i]; item.Agg == "" && item.Expr.Op == "column" {
			told = append(told, m.place(item.Expr, len(m.forms)))
		}
	}
	for i, form := range m.forms {
		has := false
		for _, k := range form.Keys {
			is := k.Unique
			for _, col := range k.Cols {
				is = is && form.Cols[col].NotNull && slices.Contains(told, m.first[i]+col)
			}
			has = has || is
		}
		froms = froms && has
	}
	for i := range m.x.Items {
		items = items && slices.Contains(ordered, i)
	}
	return [4]bool{isGrouped && len(m.x.Group) == 0, groups, froms, items}
}

func (m *model) settled() bool {
	return m.x.Kind != api.Select || m.ways() != [4]bool{}
}

// stays is P17.3.
func (m *model) stays(by api.Col) bool {
	isBy := func(e api.Expr) bool { return e.Op == "param" && e.Name == by.Name }
	if m.x.Kind == api.Insert {
		for i, name := range m.x.Cols {
			if m.into.Part >= 0 && m.into.Cols[m.into.Part].Name == name {
				return isBy(m.x.Values[i]) && m.into.Cols[m.into.Part].Type == by.Type
			}
		}
		return false
	}
	same := m.reached(func(e api.Expr, c api.Col) bool { return isBy(e) && c.Type == by.Type }, func(a, b api.Col) bool { return a.Type == b.Type })
	for i, form := range m.forms {
		isIt := slices.Contains(same, m.first[i]+form.Part)
		if form.Part >= 0 && !isIt || form.Part < 0 && m.x.Kind != api.Select {
			return false
		}
	}
	return true
}

// P17.1 to P17.3: of statements at random, and of such as Check refuses, the answers are those of the model.
func TestModel(t *testing.T) {
	t.Parallel()
	m := newMaker(t, 171)
	seen := map[string]int{}
	for i := range 20000 {
		if i%20 == 0 {
			m.tables()
		}
		s := m.stmt()
		x := stmt(t, s)
		if _, why := m.c.Check(x, theParams()); why != api.OK {
			refuses(t, m.c, x, theParams(), pick(m, theParams()...).Name, why)
			seen[why.Error()]++
			continue
		}
		o := modelOf(m.c, x)
		places, why := detcheck.Fixed(m.c, x, theParams())
		if want := o.fixed(); !slices.Equal(places, want) || why != api.OK {
			t.Fatalf("%s: %v %v, not %v", s, places, why, want)
		}
		is, why := detcheck.Settled(m.c, x, theParams())
		if want := o.settled(); is != want || why != api.OK {
			t.Fatalf("%s\n%+v\n%v %v, not %v", s, m.c.Tables(), is, why, want)
		}
		for _, by := range theParams() {
			stays, why := detcheck.Single(m.c, x, theParams(), by.Name)
			if want := o.stays(by); stays != want || why != api.OK {
				t.Fatalf("%s\n%+v\nby %s: %v %v, not %v", s, m.c.Tables(), by.Name, stays, why, want)
			}
			if stays {
				seen["stays "+string(rune('0'+x.Kind))]++
			}
		}
		count(o, seen)
	}
	for what, least := range map[string]int{
		"fixed": 5000, "stays 1": 500, "stays 2": 100, "stays 3": 100, "stays 4": 100, "open": 3000, "way 0": 500, "way 1": 1000, "way 2": 1000, "way 3": 100, "only 1": 200, "only 2": 1000, "only 3": 100, "two Froms": 100,
		api.ErrTable.Error(): 30, api.ErrPart.Error(): 30,
	} {
		if seen[what] < least {
			t.Errorf("too few of %s: %d", what, seen[what])
		}
	}
}

// count notes what a statement is an example of.
func count(o *model, seen map[string]int) {
	if len(o.fixed()) > 0 {
		seen["fixed"]++
	}
	if o.x.Kind != api.Select {
		return
	}
	ways, many := o.ways(), 0
	for _, is := range ways {
		if is {
			many++
		}
	}
	for i, is := range ways {
		if is {
			seen["way "+string(rune('0'+i))]++
		}
		if is && many == 1 {
			seen["only "+string(rune('0'+i))]++
		}
	}
	if many == 0 {
		seen["open"]++
	}
	if ways[2] && len(o.forms) > 1 {
		seen["two Froms"]++
	}
}

// P17.4: of procedures at random the step and the error are those of the model, and All tells the first of them.
func TestModelOfProcs(t *testing.T) {
	t.Parallel()
	m := newMaker(t, 174)
	seen := map[api.Errno]int{}
	for range 600 {
		tables := m.schema()
		m.c = made(t, tables)
		s := tables
		for n := range m.Intn(8) {
			s += m.proc(fmt.Sprint("f", (n*5+3)%8))
		}
		c := made(t, s)
		var first api.Proc
		at, wrong := 0, api.OK
		for _, p := range c.Procs() {
			step, why := plainProc(c, p)
			procIs(t, c, p.Name, step, why)
			if wrong == api.OK && why != api.OK {
				first, at, wrong = p, step, why
			}
			seen[why]++
			if why != api.OK && step > 0 {
				seen[-why]++
			}
		}
		allIs(t, c, first.Name, at, wrong)
		if t.Failed() {
			t.Fatal(s)
		}
	}
	for _, why := range []api.Errno{api.OK, api.ErrOrder, api.ErrRoute, -api.ErrOrder, -api.ErrRoute} {
		if seen[why] < 100 {
			t.Errorf("too few of %v: %d", why, seen[why])
		}
	}
}

// proc is a procedure at random, in which nothing is wrong by the catalog.
func (m *maker) proc(name string) string {
	types := []string{"", "BIGINT", "DECIMAL", "VARCHAR(3)", "BOOLEAN"}
	var params []string
	for _, p := range theParams() {
		params = append(params, p.Name+" "+types[p.Type])
	}
	part := ""
	if m.one(2) {
		part = " PARTITION BY " + pick(m, theParams()...).Name
	}
	var steps []string
	for n := range 1 + m.Intn(4) {
		s := m.stmt()
		x := stmt(m.t, s)
		cols, why := m.c.Answer(x, theParams())
		switch {
		case why != api.OK || m.one(4):
			s = "ABORT 'x' IF :f"
		case x.Kind == api.Select && len(cols) == 1 && cols[0].Type != api.Null:
			s = fmt.Sprint("LET l", n, " = ", s)
		}
		steps = append(steps, s)
	}
	return "CREATE PROCEDURE " + name + " (" + strings.Join(params, ", ") + ")" + part + " AS BEGIN " + strings.Join(steps, "; ") + "; END;\n"
}

// plainProc is P17.4 of a procedure.
func plainProc(c *catalog.Catalog, p api.Proc) (int, api.Errno) {
	for i, step := range p.Steps {
		if step.Kind == api.Abort {
			continue
		}
		o := modelOf(c, step.Stmt)
		if !o.settled() {
			return i, api.ErrOrder
		}
		for _, by := range p.Params {
			if by.Name == p.Part && !o.stays(col(by.Name, by.Type)) {
				return i, api.ErrRoute
			}
		}
	}
	return 0, api.OK
}
