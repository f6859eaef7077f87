package exec_test

import (
	"testing"

	"lockstep/api"
	"lockstep/bag"
	"lockstep/catalog"
	"lockstep/exec"
	"lockstep/plan"
	"lockstep/table"
)

// P16.4, P16.5, P15.7: statements at random over tables at random come to what bag says, by whichever plan; each error, and each kind of statement with and without one, comes often enough.
func TestAsTheBagSays(t *testing.T) {
	t.Parallel()
	m := newMaker(t, 164)
	fine, wrong, whys := map[int]int{}, map[int]int{}, map[api.Errno]int{}
	goes := map[string]int{}
	var l []*table.Table
	for i := range 6000 {
		if i%20 == 0 {
			m.tables()
		}
		if i%4 == 0 {
			l = m.load()
		}
		s := m.stmt()
		x, args := stmt(t, s), m.args()
		if _, why := m.c.Check(x, theParams()); why != api.OK {
			goes["refused"]++
			continue
		}
		got := does(t, m.c, l, x, theParams(), args)
		o := modelOf(m.c, x, theParams())
		for range 3 {
			p := api.Plan{Stmt: x, Access: m.plan(o)}
			if why := plan.Check(m.c, p, theParams()); why != api.OK {
				t.Fatalf("%s: %v", noted(m.c, p), why)
			}
			for _, a := range p.Access {
				noteAccess(goes, a)
			}
			agrees(t, m.c, l, p, theParams(), args)
		}
		if t.Failed() {
			return
		}
		whys[got.why]++
		if got.why == api.OK {
			fine[x.Kind]++
			if x.Kind == api.Select && len(got.rows) > 1 {
				goes["rows"]++
			}
			if m.one(3) { // go on from there
				l = got.l
			}
		} else {
			wrong[x.Kind]++
		}
	}
	for kind := api.Select; kind <= api.Delete; kind++ {
		if fine[kind] < 100 || wrong[kind] < 30 {
			t.Errorf("too few of the kind %d: %d, %d", kind, fine[kind], wrong[kind])
		}
	}
	for _, why := range []api.Errno{api.ErrArg, api.ErrLong, api.ErrForm, api.ErrOver, api.ErrZero, api.ErrTwice, api.ErrNull, api.ErrFull} {
		if whys[why] < 10 {
			t.Errorf("too few of %v: %d", why, whys[why])
		}
	}
	for _, what := range []string{"rows", "all", "key", "same", "more", "low", "low in", "high", "high in", "both"} {
		if goes[what] < 70 {
			t.Errorf("too few of %s: %d", what, goes[what])
		}
	}
	if goes["refused"] > 1500 {
		t.Errorf("too many are refused: %d", goes["refused"])
	}
}

// noteAccess counts what an access goes by.
func noteAccess(goes map[string]int, a api.Access) {
	note := func(is bool, what string) {
		if is {
			goes[what]++
		}
	}
	low, high := a.Low.Op != "", a.High.Op != ""
	note(a.Key < 0, "all")
	note(a.Key >= 0 && len(a.Same) == 0 && !low && !high, "key")
	note(len(a.Same) == 1, "same")
	note(len(a.Same) > 1, "more")
	note(low && !a.LowIn, "low")
	note(low && a.LowIn, "low in")
	note(high && !a.HighIn, "high")
	note(high && a.HighIn, "high in")
	note(low && high, "both")
}

// P16.5: two plans of one statement answer the same and leave the same tables, at each step of a long way of statements that each go by another one's tables.
func TestAnyPlan(t *testing.T) {
	t.Parallel()
	m := newMaker(t, 165)
	for range 60 {
		m.tables()
		one := m.load()
		two := loaded(t, m.c, exec.Data(one))
		for range 40 {
			x, args := stmt(t, m.stmt()), m.args()
			if _, why := m.c.Check(x, theParams()); why != api.OK {
				continue
			}
			o := modelOf(m.c, x, theParams())
			p, q := api.Plan{Stmt: x, Access: m.plan(o)}, api.Plan{Stmt: x, Access: m.plan(o)}
			a, whyA := exec.Run(m.c, one, p, theParams(), args)
			b, whyB := exec.Run(m.c, two, q, theParams(), args)
			if whyA != whyB || show(a) != show(b) || !bag.Same(exec.Data(one), exec.Data(two)) {
				t.Fatalf("%s: %v %v\n%s: %v %v", noted(m.c, p), a, whyA, noted(m.c, q), b, whyB)
			}
		}
		byKeys(t, "any plan", one)
		byKeys(t, "any plan", two)
		if bag.Check(m.c, exec.Data(one)) != api.OK {
			t.Error("tables that can't be")
		}
		if t.Failed() {
			return
		}
	}
}

// P16.2: statements that can't be, or that name what is not there, are refused as the catalog refuses them, and change nothing.
func TestBentStatements(t *testing.T) {
	t.Parallel()
	m := newMaker(t, 162)
	whys := map[api.Errno]int{}
	for i := range 3000 {
		if i%50 == 0 {
			m.tables()
		}
		l := m.load()
		x := m.bent(stmt(t, m.stmt()))
		p, want := plan.Make(m.c, x, theParams())
		args := m.args()
		d := clones(l)
		got, why := exec.Do(m.c, d, x, theParams(), args)
		if want == api.OK {
			agrees(t, m.c, l, p, theParams(), args)
		} else if why != want || len(got) != 0 || stateOf(d) != stateOf(l) {
			t.Errorf("%s: %v %v, not %v", show(x), got, why, want)
		}
		whys[want]++
		if want != api.OK {
			q := api.Plan{Stmt: x, Access: []api.Access{{Key: -1}}}
			if got, why := exec.Run(m.c, d, q, theParams(), args); why != want || len(got) != 0 || stateOf(d) != stateOf(l) {
				t.Errorf("%s: %v %v, not %v", show(x), got, why, want)
			}
		}
		if t.Failed() {
			return
		}
	}
	for _, why := range []api.Errno{api.OK, api.ErrArg, api.ErrName, api.ErrType, api.ErrParam} {
		if whys[why] < 15 {
			t.Errorf("too few of %v: %d", why, whys[why])
		}
	}
}

// bent is a statement with something in it turned into something else.
func (m *maker) bent(x api.Stmt) api.Stmt {
	x = withRoom(x)
	other := stmt(m.t, m.stmt())
	bend := func(e *api.Expr) {
		*e = pick(m, api.Expr{}, api.Expr{Op: "zz"}, api.Expr{Op: "column", Name: "a"}, api.Expr{Op: "param", Name: "zz"}, api.Expr{Op: "and"}, api.Expr{Op: "value", Value: api.Value{Type: 9}}, api.Expr{Op: "value", Value: num(-1)}, other.Where)
	}
	switch m.Intn(9) {
	case 0:
		x.Kind = m.Intn(7) - 1
	case 1:
		x.Table, x.From = other.Table, other.From
	case 2:
		x.Items, x.Group = other.Items, other.Group
	case 3:
		x.Having = other.Having
	case 4:
		x.Sets, x.Cols = other.Sets, other.Cols
	case 5:
		bend(&x.Where)
	case 6:
		bend(&x.Limit)
	case 7:
		for i := range x.Values {
			bend(&x.Values[i])
		}
		for i := range x.Order {
			x.Order[i].Name = pick(m, "", "n0", "zz")
		}
	case 8:
		for i := range x.From {
			bend(&x.From[i].On)
		}
		for i := range x.Sets {
			bend(&x.Sets[i].Expr)
		}
	}
	return x
}

// P15.7, P16.4: what the tables' rows stand under plays no part: the same rows, loaded in any order.
func TestOrderOfRows(t *testing.T) {
	t.Parallel()
	m := newMaker(t, 157)
	for i := range 1500 {
		if i%20 == 0 {
			m.tables()
		}
		l := m.load()
		d := exec.Data(l)
		for _, rows := range d {
			m.Shuffle(len(rows), func(i, k int) { rows[i], rows[k] = rows[k], rows[i] })
		}
		x, args := stmt(t, m.stmt()), m.args()
		turned := loaded(t, m.c, d)
		a, whyA := exec.Do(m.c, l, x, theParams(), args)
		b, whyB := exec.Do(m.c, turned, x, theParams(), args)
		if whyA != whyB || show(a) != show(b) || !bag.Same(exec.Data(l), exec.Data(turned)) {
			t.Fatalf("%s: %v %v, %v %v", show(x), a, whyA, b, whyB)
		}
	}
}

// P16.6: behind Back a base of tables at random holds what it held at the mark, and does from there what a new one does.
func TestTakenBackAtRandom(t *testing.T) {
	t.Parallel()
	m := newMaker(t, 166)
	taken := 0
	for range 120 {
		m.tables()
		b := newBase(t, m.c, m.load())
		for range 25 {
			if s := m.stmt(); !m.one(5) && checks(m.c, stmt(t, s)) {
				b.run(s)
			} else if mark := m.Intn(b.b.Mark() + 1); mark < b.b.Mark() {
				b.back(mark)
				b.asNew()
				taken++
			}
		}
		b.asNew()
		if t.Failed() {
			return
		}
	}
	if taken < 150 {
		t.Errorf("too few are taken back: %d", taken)
	}
}

func checks(c *catalog.Catalog, x api.Stmt) bool {
	_, why := c.Check(x, theParams())
	return why == api.OK
}
