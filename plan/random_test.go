package plan_test

import (
	"testing"

	"lockstep/api"
	"lockstep/plan"
)

// P15.1 to P15.3, P15.6: Make's plans of statements at random are those of the model, and are plans.
func TestModelOfMake(t *testing.T) {
	t.Parallel()
	m := newMaker(t, 151)
	seen := map[string]int{}
	for i := range 20000 {
		if i%20 == 0 {
			m.tables()
		}
		s := m.stmt()
		x := stmt(t, s)
		p, why := plan.Make(m.c, x, theParams())
		if why != api.OK {
			t.Fatal(s, why)
		}
		o := modelOf(m.c, x, theParams())
		want := o.accesses()
		if show(p.Access) != show(want) || show(p.Stmt) != show(x) {
			q, _ := plan.Print(m.c, p)
			r, _ := o.plainPrint(want)
			t.Fatalf("%s\n%+v\n%s, not\n%s", s, m.c.Tables(), q, r)
		}
		if why := plan.Check(m.c, p, theParams()); why != api.OK {
			t.Fatal(s, why)
		}
		count(o, want, seen)
	}
	for _, what := range []string{"none", "whole", "part", "ends", "further ends", "both ends", "all", "turned order", "ambiguous", "joined"} {
		if seen[what] < 100 {
			t.Errorf("too few of %s: %d", what, seen[what])
		}
	}
}

// count notes what a plan is an example of.
func count(o *model, l []api.Access, seen map[string]int) {
	if len(l) == 0 {
		seen["none"]++
	}
	for i, a := range l {
		if a.From != i {
			seen["turned order"]++
		}
		if i > 0 && len(a.Same) > 0 && !o.onlyAhead(a.Same[0], nil) {
			seen["joined"]++
		}
		switch {
		case a.Key < 0:
			seen["all"]++
		case o.isFull(a.From, a.Key, len(a.Same)):
			seen["whole"]++
		case len(a.Same) > 0:
			seen["part"]++
			if a.Low.Op != "" || a.High.Op != "" {
				seen["further ends"]++
			}
		default:
			seen["ends"]++
		}
		if a.Low.Op != "" && a.High.Op != "" {
			seen["both ends"]++
		}
	}
	for _, e := range o.conds {
		for _, p := range e.Parts {
			if p.Op == "column" && o.place(p) < 0 {
				seen["ambiguous"]++
			}
		}
	}
}

// P15.3, P15.4: of plans at random, and bent ones, Check and Print tell what the model does.
func TestModelOfCheckAndPrint(t *testing.T) {
	t.Parallel()
	m := newMaker(t, 152)
	whys, others := map[api.Errno]int{}, 0
	texts := map[api.Errno]int{}
	for i := range 20000 {
		if i%20 == 0 {
			m.tables()
		}
		s := m.stmt()
		x := stmt(t, s)
		o := modelOf(m.c, x, theParams())
		l := m.plan(o)
		if m.one(3) {
			l = o.accesses()
		}
		for range pick(m, 0, 0, 1, 1, 2, 5) {
			l = m.bent(o, l)
		}
		p := api.Plan{Stmt: x, Access: l}
		want := o.plainCheck(l)
		if why := plan.Check(m.c, p, theParams()); why != want {
			t.Fatalf("%s by %+v: %v, not %v", s, l, why, want)
		}
		whys[want]++
		if want == api.OK && show(l) != show(o.accesses()) {
			others++
		}
		text, why := plan.Print(m.c, p)
		if told, also := o.plainPrint(l); text != told || why != also {
			t.Fatalf("%s by %+v: %q %v, not %q %v", s, l, text, why, told, also)
		}
		texts[why]++
	}
	if whys[api.OK] < 4000 || whys[api.ErrPlan] < 4000 || others < 2000 || texts[api.OK] < 4000 || texts[api.ErrArg] < 2000 {
		t.Error(whys, others, texts)
	}
}
