package proc_test

import (
	"fmt"
	"testing"

	"lockstep/api"
	"lockstep/bag"
	"lockstep/catalog"
	"lockstep/parse"
	"lockstep/proc"
)

// P19.1, P19.4: procedures at random, one behind the other, on bases of both kinds: what they come to, that an error leaves all as it was, and that it goes on from there.
func TestAtRandom(t *testing.T) {
	t.Parallel()
	seen := map[string]int{}
	for seed := range int64(250) {
		m := newMaker(t, 1900+seed)
		c := m.procs(12, false)
		d := m.data(c, 4)
		bases := []base{wholeBase(t, c, d), execBase(t, c, d)}
		for range 30 {
			name, args := fmt.Sprint("f", m.Intn(12)), m.args()
			if m.one(60) {
				name = "none"
			}
			var behind result
			for _, b := range bases {
				behind = b.goes(t, c, d, name, args)
			}
			if t.Failed() {
				t.Fatal(seed, source(c, name))
			}
			d = behind.d
			note(seen, behind)
		}
	}
	for _, x := range []struct {
		kind string
		many int
	}{
		{"none changed", 100}, {"changed", 1000}, {"refused", 50}, {"step 0", 300}, {"step 1", 300}, {"step 2", 200}, {"step 5", 20},
		{api.ErrAbort.Error(), 200}, {api.ErrOne.Error(), 100}, {api.ErrTwice.Error(), 100}, {api.ErrNull.Error(), 100}, {api.ErrFull.Error(), 20}, {api.ErrLong.Error(), 20}, {api.ErrZero.Error(), 20},
	} {
		if seen[x.kind] < x.many {
			t.Errorf("%s: only %d", x.kind, seen[x.kind])
		}
	}
}

// note counts what things come to.
func note(seen map[string]int, r result) {
	switch {
	case r.why != api.OK:
		seen["refused"]++
	case r.o.Err != api.OK:
		seen[fmt.Sprint("step ", r.o.Step)]++
		seen[r.o.Err.Error()]++
	case r.moves == 0:
		seen["none changed"]++
	default:
		seen["changed"]++
	}
}

// source is a procedure's text.
func source(c *catalog.Catalog, name string) string {
	p, _ := c.Proc(name)
	s, _ := parse.PrintSchema([]api.Decl{{Proc: p}})
	return s
}

// P19.5: bases that hold the same, whichever way they came there, answer the same and hold the same behind it.
func TestFromWhatIsThere(t *testing.T) {
	t.Parallel()
	good, bad := 0, 0
	for seed := range int64(120) {
		m := newMaker(t, 5900+seed)
		c := m.procs(6, false)
		d := m.data(c, 4)
		bases := []base{
			wholeBase(t, c, d), wholeBase(t, c, m.shuffled(d)), m.byOtherWays(wholeBase(t, c, m.data(c, 4)), c, d),
			execBase(t, c, d), execBase(t, c, m.shuffled(d)), m.byOtherWays(execBase(t, c, m.data(c, 4)), c, d),
			m.thereAndBack(wholeBase(t, c, d), c), m.thereAndBack(execBase(t, c, d), c),
		}
		for range 12 {
			name, args := fmt.Sprint("f", m.Intn(6)), m.args()
			first, why := proc.Run(c, bases[0].Base, name, args)
			for i, b := range bases[1:] {
				o, wrong := proc.Run(c, b.Base, name, args)
				if !proc.Same(o, first) || proc.Digest(o) != proc.Digest(first) || wrong != why {
					t.Fatalf("%d, %d: %s %v, not %s %v", seed, i, show(o), wrong, show(first), why)
				}
				if !bag.Same(b.data(), bases[0].data()) {
					t.Fatalf("%d, %d: %s, not %s", seed, i, show(b.data()), show(bases[0].data()))
				}
			}
			if first.Err == api.OK && why == api.OK {
				good++
			} else {
				bad++
			}
		}
	}
	if good < 300 || bad < 300 {
		t.Error(good, bad)
	}
}

// byOtherWays lets a base that holds something else come to hold some tables: all that it has goes, and rows come one by one.
func (m *maker) byOtherWays(b base, c *catalog.Catalog, d api.Data) base {
	for i, form := range c.Tables() {
		m.do(b, api.Stmt{Kind: api.Delete, Table: form.Name}, nil, nil)
		for _, r := range m.shuffled(d)[i] {
			x := api.Stmt{Kind: api.Insert, Table: form.Name}
			var params []api.Col
			for _, k := range form.Cols {
				params = append(params, col(k.Name, k.Type))
				x.Cols, x.Values = append(x.Cols, k.Name), append(x.Values, api.Expr{Op: "param", Name: k.Name})
			}
			m.do(b, x, params, r)
		}
	}
	if !bag.Same(b.data(), d) {
		m.t.Fatalf("%s came to %s, not %s", b.kind, show(b.data()), show(d))
	}
	return b
}

func (m *maker) do(b base, x api.Stmt, params []api.Col, args api.Row) {
	if _, why := b.Run(x, params, args); why != api.OK {
		m.t.Fatalf("%s: %v", show(x), why)
	}
}

// thereAndBack lets a base do something, and takes it back.
func (m *maker) thereAndBack(b base, c *catalog.Catalog) base {
	mark := b.Mark()
	for i := range 6 {
		proc.Run(c, b.Base, fmt.Sprint("f", i), m.args())
	}
	if why := b.Back(mark); why != api.OK {
		m.t.Fatal(why)
	}
	return b
}

// P19.6: a procedure of statements alone comes to what these do one behind the other, as far as all of them are OK; else to the first error.
func TestOneByOne(t *testing.T) {
	t.Parallel()
	good, bad := 0, 0
	for seed := range int64(150) {
		m := newMaker(t, 6900+seed)
		c := m.procs(8, true)
		for range 20 {
			p := pick(m, c.Procs()...)
			args, d := m.args(), m.data(c, 4)
			bound, why := c.Bind(p.Name, args)
			if why != api.OK {
				continue
			}
			want, behind := api.Outcome{}, d
			for i, s := range p.Steps {
				rows, after, why := bag.Run(c, behind, s.Stmt, theParams(), bound)
				if why != api.OK {
					want, behind = fails(why, i), d
					break
				}
				want.Answers = append(want.Answers, rows)
				if s.Stmt.Kind != api.Select {
					behind = after
				}
			}
			for _, b := range []base{wholeBase(t, c, d), execBase(t, c, d)} {
				o, why := proc.Run(c, b.Base, p.Name, args)
				if why != api.OK || show(o) != show(want) || !proc.Same(o, want) || !bag.Same(b.data(), behind) {
					t.Fatalf("%d, %s%s over %s: %s %v, not %s", seed, b.kind, source(c, p.Name), show(d), show(o), why, show(want))
				}
			}
			if want.Err == api.OK {
				good++
			} else {
				bad++
			}
		}
	}
	if good < 500 || bad < 500 {
		t.Error(good, bad)
	}
}

// P19.4: behind each error a base holds what it held, wherever a procedure has come to, and goes on as if it had never been run.
func TestAllOrNothing(t *testing.T) {
	steps := []string{"INSERT INTO acc (id, bal) VALUES (9, 9)", "UPDATE acc SET bal = 1 WHERE id < 3", "DELETE FROM u WHERE a = 2", "UPDATE acc SET id = id + 1", "DELETE FROM acc WHERE id = 2", "INSERT INTO u (a, s) VALUES (3, 'z')"}
	wrong := []string{"ABORT 'no' IF TRUE", "ABORT 'no' IF 1 / 0 = 1", "LET z = SELECT 1 FROM u WHERE a > 90", "INSERT INTO acc (bal) VALUES (7)", "UPDATE u SET s = 'long' WHERE a = 1", "DELETE FROM acc WHERE 1 / (id - 3) = 9", "SELECT 1 / 0 FROM u"}
	for i := range len(steps) + 1 {
		for _, bad := range wrong {
			s := append(append([]string{}, steps[:i]...), bad)
			c := made(t, tables+procText("f", "", append(s, steps[i:]...)...)+procText("g", "", steps...))
			for _, b := range []base{wholeBase(t, c, held()), execBase(t, c, held())} {
				d := held()
				for _, name := range []string{"f", "f", "g", "f", "g"} {
					d = b.goes(t, c, d, name, nil).d
				}
			}
		}
	}
}
