package parse

import (
	"strings"

	"lockstep/api"
	"lockstep/value"
)

func (w *writer) expr(e *api.Expr) {
	w.part(e, orLine)
}

// part writes an expression where one is read by a line: in brackets, if it would be read otherwise there.
func (w *writer) part(e *api.Expr, line int) {
	if lineOf(e) < line {
		w.brackets(func() { w.bare(e) })
		return
	}
	w.bare(e)
}

// begin counts an expression. Those too many are not gone through: they may be far more than there is memory for.
func (w *writer) begin(e *api.Expr) {
	w.begun++
	least, most := partsOf(e.Op)
	w.need(w.begun <= api.MaxExprs && w.nest <= api.MaxNest && len(e.Parts) >= least && len(e.Parts) <= most)
}

func (w *writer) bare(e *api.Expr) {
	w.begin(e)
	switch line := lineOf(e); line {
	case notLine:
		w.say("NOT")
		w.deeper(func() { w.part(&e.Parts[0], line) })
	case testLine:
		w.test(e)
	case minusLine:
		w.say("-")
		w.deeper(func() { w.part(&e.Parts[0], line) })
	case lastLine:
		w.last(e)
	default:
		// Of the same line the left one is read as it is, the right one is not.
		w.part(&e.Parts[0], line)
		w.say(strings.ToUpper(e.Op))
		w.part(&e.Parts[1], line+1)
	}
}

// test writes a test, or, with a NOT in it, the not of one.
func (w *writer) test(e *api.Expr) {
	not := func() {}
	if e.Op == "not" {
		not = func() { w.say("NOT") }
		e = &e.Parts[0]
		w.begin(e)
	}
	w.part(&e.Parts[0], sumLine)
	switch e.Op {
	case "is null":
		w.say("IS")
		not()
		w.say("NULL")
	case "in":
		not()
		w.say("IN")
		w.brackets(func() { writeList(w, e.Parts[1:], maxIn, w.expr) })
	default:
		not()
		w.say(strings.ToUpper(e.Op))
		w.part(&e.Parts[1], sumLine)
	}
}

func (w *writer) last(e *api.Expr) {
	switch e.Op {
	case "value":
		w.value(e.Value)
	case "param":
		w.token(api.Token{Kind: api.Param, Text: e.Name})
	case "column":
		if e.Of != "" {
			w.name(e.Of)
			w.say(".")
		}
		w.name(e.Name)
	case "cast":
		w.call("CAST")
		w.brackets(func() {
			w.expr(&e.Parts[0])
			w.say("AS")
			w.sqlType(e.Type, api.MaxText)
		})
	case "case":
		w.say("CASE")
		for i, word := range []string{"WHEN", "THEN", "ELSE"} {
			w.say(word)
			w.deeper(func() { w.expr(&e.Parts[i]) })
		}
		w.say("END")
	default:
		w.call(strings.ToUpper(e.Op))
		w.brackets(func() { writeList(w, e.Parts, len(e.Parts), w.expr) })
	}
}

// value writes a value: NULL and truths are words, all else a literal.
func (w *writer) value(v api.Value) {
	if v.Type != api.Null && v.Type != api.Bool {
		w.token(api.Token{Kind: api.Literal, Value: v})
		return
	}
	written, why := value.Print(v)
	w.need(why == api.OK)
	w.say(written)
}
