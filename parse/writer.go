package parse

import (
	"strconv"
	"strings"

	"lockstep/api"
	"lockstep/lex"
)

// writer puts a text together. Like a reader of that text it counts expressions, and what they lie in: what that would refuse can't be written. tight is whether what comes next stands right behind what was written last.
type writer struct {
	strings.Builder
	tight bool
	begun int
	nest  int
}

// refuse gives up, as such can't be written.
func (w *writer) refuse() {
	panic(fault{why: api.ErrArg})
}

// need gives up, unless it is so.
func (w *writer) need(so bool) {
	if !so {
		w.refuse()
	}
}

// say writes tokens, a blank ahead of each, but where none belongs.
func (w *writer) say(tokens ...string) {
	for _, t := range tokens {
		if !w.tight && !strings.Contains(",;).", t) {
			w.WriteByte(' ')
		}
		w.WriteString(t)
		w.tight = t == "(" || t == "."
	}
}

// call says a word whose bracket stands right behind it.
func (w *writer) call(word string) {
	w.say(word)
	w.tight = true
}

// brackets writes what lies in them.
func (w *writer) brackets(write func()) {
	w.say("(")
	w.deeper(write)
	w.say(")")
}

// deeper writes what lies in something that counts.
func (w *writer) deeper(write func()) {
	w.nest++
	write()
	w.nest--
}

func (w *writer) name(s string) {
	written, why := lex.Quote(s)
	w.need(why == api.OK)
	w.say(written)
}

// token writes one that has no form of its own here.
func (w *writer) token(t api.Token) {
	written, why := lex.Print([]api.Token{t})
	w.need(why == api.OK)
	w.say(written)
}

func (w *writer) number(n, most int) {
	w.need(n >= 1 && n <= most)
	w.say(strconv.Itoa(n))
}

// sqlType writes a type; most plays a part with VARCHAR alone.
func (w *writer) sqlType(typ, most int) {
	switch typ {
	case api.BigInt:
		w.say("BIGINT")
	case api.Dec:
		w.say("DECIMAL")
	case api.Bool:
		w.say("BOOLEAN")
	case api.Text:
		w.call("VARCHAR")
		w.brackets(func() { w.number(most, api.MaxText) })
	default:
		w.refuse()
	}
}

// writeList writes things with commas between, of which there must be one.
func writeList[T any](w *writer, l []T, most int, write func(x *T)) {
	w.need(len(l) >= 1 && len(l) <= most)
	for i := range l {
		if i > 0 {
			w.say(",")
		}
		write(&l[i])
	}
}

// names writes a list of them in brackets.
func (w *writer) names(l []string, most int) {
	w.brackets(func() {
		writeList(w, l, most, func(s *string) { w.name(*s) })
	})
}
