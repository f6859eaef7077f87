package proc_test

import (
	"fmt"
	"slices"
	"testing"

	"lockstep/api"
	"lockstep/bag"
	"lockstep/proc"
)

// Memory: what is handed in stays as it was, its spare room too, and may be written over behind the call; what is answered is nobody else's.
func TestMemory(t *testing.T) {
	t.Parallel()
	for seed := range int64(60) {
		m := newMaker(t, 9900+seed)
		c := m.procs(6, false)
		tables, procs := show(c.Tables()), show(c.Procs())
		plain := m.data(c, 4)
		d, dd := withRoom(plain), withRoom(plain)
		w := over(t, c, d)
		if !untouched(d, dd) {
			t.Fatal("Over changes what it is given")
		}
		smear(d)
		if !bag.Same(w.Data(), plain) {
			t.Fatal("Over keeps what it is given")
		}
		var all []any
		for range 10 {
			name, args := fmt.Sprint("f", m.Intn(6)), m.args()
			a, aa := withRoom(args), withRoom(args)
			want := plainRun(c, w.Data(), name, args)
			o, why := proc.Run(c, w, name, a)
			if !untouched(a, aa) || why != want.why || show(o) != show(want.o) {
				t.Fatalf("%s: %v, %s %v", name, a, show(o), why)
			}
			smear(a)
			held := w.Data()
			all = append(all, o, held)
			apart(t, name, append(all, a)...)
			if more := m.Intn(2); more == 0 {
				smear(o)
				smear(held)
			}
			if !bag.Same(w.Data(), want.d) {
				t.Fatalf("%s: what was answered is kept", name)
			}
		}
		if show(c.Tables()) != tables || show(c.Procs()) != procs {
			t.Fatal("the catalog has changed")
		}
	}
}

// Memory of what a Whole is asked and answers by itself, and of what it keeps to go back to.
func TestMemoryOfWhole(t *testing.T) {
	t.Parallel()
	c := made(t, tables)
	for i, s := range wholeStmts() {
		for _, other := range wholeStmts() {
			w := over(t, c, held())
			var all []any
			stood := []api.Data{held()}
			for _, s := range []string{other, s, "UPDATE acc SET bal = 4", "DELETE FROM u"} {
				x, xx := withRoom(stmt(t, s)), withRoom(stmt(t, s))
				params, pp := withRoom(theParams()), withRoom(theParams())
				args, aa := withRoom(theArgs()), withRoom(theArgs())
				want, behind, _ := bag.Run(c, stood[len(stood)-1], x, params, args)
				got, _ := w.Run(x, params, args)
				if !untouched(x, xx) || !untouched(params, pp) || !untouched(args, aa) {
					t.Fatalf("%s: what is handed in has changed", s)
				}
				if show(got) != show(want) {
					t.Fatalf("%s: %v, not %v", s, got, want)
				}
				all = append(all, got, w.Data(), w.Data())
				apart(t, s, append(all, x, params, args)...)
				smear(x)
				smear(params)
				smear(args)
				if behind != nil {
					stood = append(stood, behind)
				}
			}
			for _, x := range all {
				smear(x)
			}
			for mark, d := range slices.Backward(stood) {
				if why := w.Back(mark); why != api.OK || !bag.Same(w.Data(), d) {
					t.Fatalf("%d: %s, %s: back to %d it is %s", i, other, s, mark, show(w.Data()))
				}
				if i%2 == 0 {
					smear(w.Data())
				}
			}
		}
	}
}

// smearing is a base that writes over all that it was handed, and all that it has answered, whenever it is asked the next time; and then at once, too.
type smearing struct {
	under  api.Base
	theirs []any
	now    bool
}

func (b *smearing) Run(x api.Stmt, params []api.Col, args api.Row) ([]api.Row, api.Errno) {
	b.smear()
	rows, why := b.under.Run(x, params, args)
	rows = withRoom(rows)
	b.theirs = append(b.theirs, x, params, args)
	if b.now {
		b.smear()
	}
	b.theirs = append(b.theirs, rows)
	return rows, why
}

func (b *smearing) Mark() int { return b.under.Mark() }

func (b *smearing) Back(mark int) api.Errno {
	b.smear()
	return b.under.Back(mark)
}

func (b *smearing) smear() {
	for _, x := range b.theirs {
		smear(x)
	}
	b.theirs = nil
}

// Memory: what a base does with what it was handed, or with what it has answered, is nothing to a procedure.
func TestSmearingBase(t *testing.T) {
	t.Parallel()
	for seed := range int64(60) {
		m := newMaker(t, 9300+seed)
		c := m.procs(8, false)
		d := m.data(c, 4)
		tables, procs := show(c.Tables()), show(c.Procs())
		for _, now := range []bool{true, false} {
			w := over(t, c, d)
			b := &smearing{under: w, now: now}
			for range 10 {
				name, args := fmt.Sprint("f", m.Intn(8)), m.args()
				want := plainRun(c, w.Data(), name, args)
				o, why := proc.Run(c, b, name, args)
				b.smear()
				if why != want.why || show(o) != show(want.o) || !bag.Same(w.Data(), want.d) {
					t.Fatalf("%d: %s%s of %s: %s %v, not %s", seed, source(c, name), name, told([]api.Row{args}), show(o), why, show(want.o))
				}
			}
		}
		if show(c.Tables()) != tables || show(c.Procs()) != procs {
			t.Fatal("the catalog has changed")
		}
	}
}

// A base that answers the same list each time: an outcome's are its own, and have nothing that types do not name.
func TestSameListOfBase(t *testing.T) {
	plain := []api.Row{{{Type: api.BigInt, Int: 1, Text: "junk"}, {Int: 7}}, {{Type: api.Text, Int: 9, Text: "x"}, {Type: api.Bool, Int: 1}}}
	list, was := withRoom(plain), withRoom(plain)
	b := &spy{run: func(int, api.Stmt, []api.Col, api.Row) ([]api.Row, api.Errno) { return list, api.OK }}
	o, why := proc.Run(proced(t, "SELECT 1 FROM acc", "DELETE FROM acc", "SELECT 2 FROM u"), b, "f", nil)
	one := "1, NULL; 'x', TRUE"
	if want := outcome(one, one, one); why != api.OK || show(o) != show(want) {
		t.Errorf("%s %v, not %s", show(o), why, show(want))
	}
	apart(t, "the same list", o, list)
	smear(o)
	if !untouched(list, was) {
		t.Error("what the base answered has changed", list)
	}
}

// Same and Digest change nothing.
func TestSameMemory(t *testing.T) {
	o := outcome("1, 'x'; NULL, 2.5", "", "TRUE")
	a, aa := withRoom(o), withRoom(o)
	if !proc.Same(a, aa) || proc.Digest(a) != proc.Digest(o) || !untouched(a, aa) {
		t.Error(show(a))
	}
}
