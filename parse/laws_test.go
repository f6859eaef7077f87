package parse_test

import (
	"math/rand"
	"strings"
	"testing"

	"lockstep/api"
	"lockstep/lex"
	"lockstep/parse"
)

// back checks that what was read can be written, that this is read as what it was, but for places, and that it is written the same again.
func back[T any](t *testing.T, read func(string) (T, int, api.Errno), print func(T) (string, api.Errno), x T) {
	t.Helper()
	s, why := print(x)
	if why != api.OK {
		t.Errorf("%s: %v", short(show(x)), why)
		return
	}
	again, at, why := read(s)
	if len(s) > api.MaxSource {
		if at != 0 || why != api.ErrLong {
			t.Errorf("a text of %d bytes: %d %v", len(s), at, why)
		}
		return
	}
	if at != 0 || why != api.OK || unplaced(again) != unplaced(x) {
		t.Errorf("%s: %d %v\n%s, not\n%s", short(s), at, why, short(unplaced(again)), short(unplaced(x)))
	}
	if twice, why := print(again); twice != s || why != api.OK {
		t.Errorf("%s, then %s %v", short(s), short(twice), why)
	}
}

// P9.4: there and back, of all that is read; so all that is read can be written (P9.2).
func TestThereAndBack(t *testing.T) {
	expressions(1500, func(s string, e api.Expr, wrong fault) {
		if wrong.why == api.OK {
			back(t, parse.Expr, parse.PrintExpr, e)
		}
	})
	statements(2500, func(s string, x api.Stmt, wrong fault) {
		if wrong.why == api.OK {
			back(t, parse.Stmt, parse.PrintStmt, x)
		}
	})
	schemas(1000, func(s string, l []api.Decl, wrong fault) {
		if wrong.why == api.OK {
			back(t, parse.Schema, parse.PrintSchema, l)
		}
	})
	for whole, l := range samples() {
		for _, s := range l {
			switch whole {
			case "expr":
				e, _, _ := parse.Expr(s)
				back(t, parse.Expr, parse.PrintExpr, e)
			case "stmt":
				x, _, _ := parse.Stmt(s)
				back(t, parse.Stmt, parse.PrintStmt, x)
			default:
				l, _, _ := parse.Schema(s)
				back(t, parse.Schema, parse.PrintSchema, l)
			}
		}
	}
}

// P9.2, P9.4: how long a text is plays no part in whether it can be written; one that is too long is not read.
func TestTooLong(t *testing.T) {
	text := api.Expr{Op: "value", Value: api.Value{Type: api.Text, Text: strings.Repeat("'", 4096)}}
	e := text
	for range 7 {
		e = op(0, "||", e, text)
	}
	back(t, parse.Expr, parse.PrintExpr, e)
	if s, _ := parse.PrintExpr(e); len(s) != 8*8194+7*4 {
		t.Error(len(s))
	}
	x := item(0, api.Item{Expr: e})
	back(t, parse.Stmt, parse.PrintStmt, x)
	step := api.Step{Kind: api.Abort, Text: text.Value.Text, Cond: val(0, truth(1))}
	back(t, parse.Schema, parse.PrintSchema, procedure(step, step, step, step, step, step, step, step))
	back(t, parse.Schema, parse.PrintSchema, procedure(step, step, step, step, step, step, step))
	l := declared(t, "create table t (a bigint, b bigint, index i (a, b));", func(d *api.Decl) {
		for i := range d.Table.Cols {
			d.Table.Cols[i].Name = strings.Repeat(`"`, 32)
		}
	})
	for len(l) < 256 {
		l = append(l, l[0])
	}
	back(t, parse.Schema, parse.PrintSchema, l)
	if s, _ := parse.PrintSchema(l); len(s) <= api.MaxSource/2 {
		t.Error(len(s))
	}
}

// respelt is the same tokens with other blanks and remarks between, and with words in other letters; and where each token stands then.
func respelt(m *maker, s string) (string, []int) {
	l, _, _ := lex.Tokens(s)
	var at []int
	for _, x := range l {
		switch x.Kind {
		case api.End:
			at = append(at, len(m.end()))
		case api.Word:
			at = append(at, m.token(m.spelt(x.Text)))
		case api.Param:
			at = append(at, m.token(":"+m.spelt(x.Text)))
		default:
			written, _ := lex.Print([]api.Token{x})
			at = append(at, m.token(written))
		}
	}
	return m.text.String(), at
}

// same checks that two texts of the same tokens are read alike, but for places; where one is refused, the other one is at the same token.
func same[T any](t *testing.T, m *maker, read func(string) (T, int, api.Errno), s string) {
	t.Helper()
	other, places := respelt(m, s)
	if len(other) > api.MaxSource {
		return
	}
	x, at, why := read(s)
	y, otherAt, otherWhy := read(other)
	if why != otherWhy || unplaced(x) != unplaced(y) {
		t.Errorf("%s\nand\n%s: %v %v", short(s), short(other), why, otherWhy)
	}
	if why == api.OK {
		return
	}
	l, _, _ := lex.Tokens(s)
	for i, token := range l {
		if token.At == at && places[i] != otherAt {
			t.Errorf("%s\nand\n%s: %d %d", short(s), short(other), at, otherAt)
		}
	}
}

// P9.5: what is read does not hang on blanks, remarks and letters of words.
func TestBlanks(t *testing.T) {
	seed := int64(0)
	next := func() *maker {
		seed++
		return &maker{Rand: rand.New(rand.NewSource(seed)), loose: true}
	}
	expressions(800, func(s string, e api.Expr, wrong fault) { same(t, next(), parse.Expr, s) })
	statements(1500, func(s string, x api.Stmt, wrong fault) { same(t, next(), parse.Stmt, s) })
	schemas(600, func(s string, l []api.Decl, wrong fault) { same(t, next(), parse.Schema, s) })
	for whole, l := range samples() {
		for _, s := range l {
			words := strings.Fields(s)
			for i := range len(words) + 1 {
				s := strings.Join(words[:i], " ")
				switch whole {
				case "expr":
					same(t, next(), parse.Expr, s)
				case "stmt":
					same(t, next(), parse.Stmt, s)
				default:
					same(t, next(), parse.Schema, s)
				}
			}
		}
	}
}
