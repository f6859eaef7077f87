package proc_test

import (
	"fmt"
	"slices"
	"strings"
	"testing"

	"lockstep/api"
	"lockstep/bag"
	"lockstep/catalog"
	"lockstep/exec"
	"lockstep/expr"
	"lockstep/proc"
	"lockstep/table"
)

// result is what a procedure comes to: the outcome, the tables behind it, how many changes it made.
type result struct {
	o     api.Outcome
	why   api.Errno
	d     api.Data
	moves int
}

// plainRun is the chapter's words, over tables that are never changed but come anew of each statement.
func plainRun(c *catalog.Catalog, d api.Data, name string, args api.Row) result {
	args, why := c.Bind(name, args)
	if why != api.OK {
		return result{why: why, d: d}
	}
	isNamed := func(p api.Proc) bool { return p.Name == name }
	p := c.Procs()[slices.IndexFunc(c.Procs(), isNamed)]
	var params []api.Col
	for _, x := range p.Params {
		params = append(params, col(x.Name, x.Type))
	}
	behind := result{d: d}
	for i, s := range p.Steps {
		failed := result{o: api.Outcome{Step: i}, d: d}
		if s.Kind == api.Abort {
			v, why := expr.Eval(s.Cond, api.Scope{Params: params}, nil, args)
			if why != api.OK {
				failed.o.Err = why
				return failed
			}
			if v.Type == api.Bool && v.Int == 1 {
				failed.o.Err, failed.o.Text = api.ErrAbort, s.Text
				return failed
			}
			continue
		}
		rows, after, why := bag.Run(c, behind.d, s.Stmt, params, args)
		if s.Kind == api.Let && why == api.OK && len(rows) != 1 {
			why = api.ErrOne
		}
		if why != api.OK {
			failed.o.Err = why
			return failed
		}
		if s.Kind == api.Let {
			cols, why := c.Answer(s.Stmt, params)
			if why != api.OK || len(cols) != 1 {
				panic("a Let of other than one column")
			}
			params, args = slices.Concat(params, []api.Col{col(s.Name, cols[0].Type)}), slices.Concat(args, rows[0])
			continue
		}
		behind.o.Answers = append(behind.o.Answers, rows)
		if s.Stmt.Kind != api.Select {
			behind.d = after
			behind.moves++
		}
	}
	return behind
}

// base is one that is to hold something, and how that is looked at.
type base struct {
	api.Base
	kind  string
	data  func() api.Data
	state func() string // all of it, as it stands
}

func wholeBase(t *testing.T, c *catalog.Catalog, d api.Data) base {
	t.Helper()
	w := over(t, c, d)
	return base{w, "whole", w.Data, func() string { return show(w.Data()) }}
}

func execBase(t *testing.T, c *catalog.Catalog, d api.Data) base {
	t.Helper()
	l, why := exec.Load(c, d)
	if why != api.OK {
		t.Fatal(why)
	}
	b, why := exec.New(c, l)
	if why != api.OK {
		t.Fatal(why)
	}
	return base{b, "exec", func() api.Data { return exec.Data(l) }, func() string { return stateOf(l) }}
}

// stateOf is tables with their rows' numbers, the number that comes next, and their marks.
func stateOf(l []*table.Table) string {
	var all []string
	for _, x := range l {
		all = append(all, fmt.Sprint(show(x.Rows()), x.Next(), x.Mark()))
	}
	return strings.Join(all, "\n")
}

// goes checks what a procedure comes to on a base that holds some tables, and what the base holds behind it.
func (b base) goes(t *testing.T, c *catalog.Catalog, d api.Data, name string, args api.Row) result {
	t.Helper()
	want := plainRun(c, d, name, args)
	state, mark := b.state(), b.Mark()
	o, why := proc.Run(c, b.Base, name, args)
	note := fmt.Sprintf("%s %s of %s over %s", b.kind, name, told([]api.Row{args}), short(show(d)))
	if why != want.why || show(o) != show(want.o) {
		t.Errorf("%s: %s %v, not %s %v", note, short(show(o)), why, short(show(want.o)), want.why)
	}
	if !bag.Same(b.data(), want.d) || b.Mark() != mark+want.moves {
		t.Errorf("%s: behind it there are %s, not %s, at %d", note, short(show(b.data())), short(show(want.d)), b.Mark())
	}
	if (why != api.OK || o.Err != api.OK) && b.state() != state {
		t.Errorf("%s: %v, but it is\n%s, not\n%s", note, o, short(b.state()), short(state))
	}
	return want
}
