package parse

import (
	"slices"

	"lockstep/api"
)

// reader goes through the tokens of a text, the last one the End. begun counts expressions (of a statement, of a condition of ABORT), nest what the token at hand lies in: brackets, NOTs, minus signs, CASEs.
type reader struct {
	tokens []api.Token
	ahead  int
	begun  int
	nest   int
}

// alone is what is read, behind which nothing may stand.
func alone[T any](r *reader, what func() T) T {
	x := what()
	if t := r.here(); t.Kind != api.End {
		panic(fault{t.At, api.ErrMore})
	}
	return x
}

// here is the token at hand. The End is never taken, so there always is one.
func (r *reader) here() api.Token {
	return r.tokens[r.ahead]
}

// wrong gives up, as the token at hand can't stand there.
func (r *reader) wrong() {
	t := r.here()
	if t.Kind == api.End {
		panic(fault{t.At, api.ErrShort})
	}
	panic(fault{t.At, api.ErrForm})
}

// isOne tells whether a token is one of these words or signs.
func isOne(t api.Token, words ...string) bool {
	return (t.Kind == api.Word || t.Kind == api.Sign) && slices.Contains(words, t.Text)
}

// has tells whether one of these words or signs is at hand.
func (r *reader) has(words ...string) bool {
	return isOne(r.here(), words...)
}

// take takes a word or sign, if it is at hand.
func (r *reader) take(word string) bool {
	if !r.has(word) {
		return false
	}
	r.ahead++
	return true
}

// must takes words and signs, one behind the other.
func (r *reader) must(words ...string) {
	for _, word := range words {
		if !r.take(word) {
			r.wrong()
		}
	}
}

// isName tells whether a token is a name.
func isName(t api.Token) bool {
	return t.Kind == api.Quoted || t.Kind == api.Word && !Word(t.Text)
}

func (r *reader) name() string {
	t := r.here()
	if !isName(t) {
		r.wrong()
	}
	r.ahead++
	return t.Text
}

// isNumber tells whether a token is a number of the grammar's.
func isNumber(t api.Token) bool {
	return t.Kind == api.Literal && t.Value.Type == api.BigInt
}

// number is one from 1 to most.
func (r *reader) number(most int) int {
	t := r.here()
	if !isNumber(t) || t.Value.Int < 1 || t.Value.Int > int64(most) {
		r.wrong()
	}
	r.ahead++
	return int(t.Value.Int)
}

// brackets reads what lies in them.
func (r *reader) brackets(read func()) {
	if !r.has("(") {
		r.wrong()
	}
	r.nest++
	if r.nest > api.MaxNest {
		r.tooMuch(r.here().At)
	}
	r.ahead++
	read()
	r.must(")")
	r.nest--
}

// deeper reads an expression that lies in something else than brackets.
func (r *reader) deeper(read func() api.Expr) api.Expr {
	r.nest++
	e := read()
	r.nest--
	return e
}

// commas reads one thing, and others behind commas.
func (r *reader) commas(read func()) {
	read()
	for r.take(",") {
		read()
	}
}

// room gives up, if one more would be too many. That is told ahead of looking at the token where it would begin.
func (r *reader) room(have, most int) {
	if have >= most {
		r.tooMuch(r.here().At)
	}
}

func (r *reader) tooMuch(at int) {
	panic(fault{at, api.ErrLong})
}

// list is what is read with commas between.
func list[T any](r *reader, most int, what func() T) []T {
	var l []T
	r.commas(func() {
		r.room(len(l), most)
		l = append(l, what())
	})
	return l
}
