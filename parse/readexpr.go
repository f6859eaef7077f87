package parse

import "lockstep/api"

// begin counts an expression whose place is at.
func (r *reader) begin(at int) {
	r.begun++
	if r.begun > api.MaxExprs || r.nest > api.MaxNest {
		r.tooMuch(at)
	}
}

// beginHere begins an expression at the token at hand, which it takes.
func (r *reader) beginHere() api.Token {
	t := r.here()
	r.begin(t.At)
	r.ahead++
	return t
}

func (r *reader) expr() api.Expr {
	return r.line(orLine)
}

// line reads an expression by a line of the grammar.
func (r *reader) line(line int) api.Expr {
	switch line {
	case notLine:
		return r.not()
	case testLine:
		return r.test()
	case minusLine:
		return r.minus()
	case lastLine:
		return r.last()
	}
	return r.chain(line)
}

// chain reads Parts of the next line, with signs or words between: of several the left ones lie deeper.
func (r *reader) chain(line int) api.Expr {
	e := r.line(line + 1)
	for r.has(between(line)...) {
		sign := r.beginHere()
		e = api.Expr{Op: sign.Text, Parts: []api.Expr{e, r.line(line + 1)}, At: sign.At}
	}
	return e
}

func (r *reader) not() api.Expr {
	if !r.has("not") {
		return r.test()
	}
	at := r.beginHere().At
	return api.Expr{Op: "not", Parts: []api.Expr{r.deeper(r.not)}, At: at}
}

func (r *reader) minus() api.Expr {
	if !r.has("-") {
		return r.last()
	}
	at := r.beginHere().At
	return api.Expr{Op: "neg", Parts: []api.Expr{r.deeper(r.minus)}, At: at}
}

func (r *reader) test() api.Expr {
	e := r.line(sumLine)
	switch {
	case r.has(comparisons()...):
		sign := r.beginHere()
		return api.Expr{Op: sign.Text, Parts: []api.Expr{e, r.line(sumLine)}, At: sign.At}
	case r.has("is"):
		return r.isNull(e)
	case r.has("not"):
		return r.negated(e)
	case r.has("like"):
		return r.like(e, r.beginHere().At)
	case r.has("in"):
		return r.in(e, r.beginHere().At)
	}
	return e
}

// isNull begins what it reads at the IS; but if a NOT stands behind that, the place of both expressions is the NOT's.
func (r *reader) isNull(e api.Expr) api.Expr {
	at := r.here().At
	next := r.tokens[r.ahead+1] // there is one, as this one is not the End
	negated := isOne(next, "not")
	if negated {
		at = next.At
		r.begin(at)
	}
	r.begin(at)
	r.must("is")
	if negated {
		r.must("not")
	}
	r.must("null")
	e = api.Expr{Op: "is null", Parts: []api.Expr{e}, At: at}
	if negated {
		e = opposite(e)
	}
	return e
}

// negated begins both expressions at the NOT, whichever of the two tests stands behind it.
func (r *reader) negated(e api.Expr) api.Expr {
	at := r.here().At
	r.begin(at)
	r.beginHere()
	switch {
	case r.take("like"):
		return opposite(r.like(e, at))
	case r.take("in"):
		return opposite(r.in(e, at))
	}
	r.wrong()
	return e
}

// opposite is not of a test, in its place.
func opposite(e api.Expr) api.Expr {
	return api.Expr{Op: "not", Parts: []api.Expr{e}, At: e.At}
}

func (r *reader) like(e api.Expr, at int) api.Expr {
	return api.Expr{Op: "like", Parts: []api.Expr{e, r.line(sumLine)}, At: at}
}

func (r *reader) in(e api.Expr, at int) api.Expr {
	parts := []api.Expr{e}
	r.brackets(func() { parts = append(parts, list(r, maxIn, r.expr)...) })
	return api.Expr{Op: "in", Parts: parts, At: at}
}

// last reads what binds most.
func (r *reader) last() api.Expr {
	t := r.here()
	switch {
	case t.Kind == api.Literal:
		return r.value(t.Value)
	case t.Kind == api.Param:
		return api.Expr{Op: "param", Name: t.Text, At: r.beginHere().At}
	case isName(t):
		return r.column()
	case r.has("null"):
		return r.value(api.Value{})
	case r.has("true"):
		return r.value(api.Value{Type: api.Bool, Int: 1})
	case r.has("false"):
		return r.value(api.Value{Type: api.Bool})
	case r.has("cast"):
		return r.cast()
	case r.has("length", "substr", "coalesce"):
		return r.call()
	case r.has("case"):
		return r.choice()
	}
	var e api.Expr
	r.brackets(func() { e = r.expr() })
	return e
}

func (r *reader) value(v api.Value) api.Expr {
	return api.Expr{Op: "value", Value: v, At: r.beginHere().At}
}

func (r *reader) column() api.Expr {
	first := r.beginHere()
	if r.take(".") {
		return api.Expr{Op: "column", Of: first.Text, Name: r.name(), At: first.At}
	}
	return api.Expr{Op: "column", Name: first.Text, At: first.At}
}

func (r *reader) cast() api.Expr {
	e := api.Expr{Op: "cast", At: r.beginHere().At}
	r.brackets(func() {
		e.Parts = []api.Expr{r.expr()}
		r.must("as")
		e.Type, _ = r.sqlType()
	})
	return e
}

// call reads a function of as many Parts as it has.
func (r *reader) call() api.Expr {
	word := r.beginHere()
	e := api.Expr{Op: word.Text, At: word.At}
	_, most := partsOf(e.Op)
	r.brackets(func() {
		e.Parts = append(e.Parts, r.expr())
		for len(e.Parts) < most {
			r.must(",")
			e.Parts = append(e.Parts, r.expr())
		}
	})
	return e
}

func (r *reader) choice() api.Expr {
	e := api.Expr{Op: "case", At: r.beginHere().At}
	for _, word := range []string{"when", "then", "else"} {
		r.must(word)
		e.Parts = append(e.Parts, r.deeper(r.expr))
	}
	r.must("end")
	return e
}

// sqlType is a type, and, of VARCHAR, how many bytes at most. (No expression lies in its bracket, so that does not count.)
func (r *reader) sqlType() (int, int) {
	t := r.here()
	typ := typeOf(t.Text)
	if t.Kind != api.Word || typ == 0 {
		r.wrong()
	}
	r.ahead++
	if typ != api.Text {
		return typ, 0
	}
	r.must("(")
	most := r.number(api.MaxText)
	r.must(")")
	return typ, most
}
