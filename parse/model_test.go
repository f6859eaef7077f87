package parse_test

import (
	"fmt"
	"math/rand"
	"reflect"
	"regexp"
	"slices"
	"strings"
	"testing"

	"lockstep/api"
	"lockstep/lex"
	"lockstep/parse"
)

// fault is what is wrong with a text, and where.
type fault struct {
	at  int
	why api.Errno
}

// show tells all fields of something. (Nil and empty lists look alike.)
func show(x any) string { return fmt.Sprintf("%+v", x) }

// alike tells whether two are the same, nil and empty lists too.
func alike(a, b any) bool { return reflect.DeepEqual(a, b) || show(a) == show(b) }

var places = regexp.MustCompile(`\bAt:\d+`)

// unplaced is the same, but for places.
func unplaced(x any) string { return places.ReplaceAllString(show(x), "At:0") }

// short cuts what may be very long.
func short(s string) string { return s[:min(len(s), 600)] }

// reads checks what one of the three readers tells of a text: x, or what is wrong.
func reads[T any](t *testing.T, read func(string) (T, int, api.Errno), s string, x T, wrong fault) {
	t.Helper()
	if wrong.why != api.OK {
		x = *new(T)
	}
	got, at, why := read(s)
	if (fault{at, why}) != wrong {
		t.Errorf("%s: %d %v, not %d %v", short(s), at, why, wrong.at, wrong.why)
	} else if !alike(got, x) {
		t.Errorf("%s:\n%s, not\n%s", short(s), short(show(got)), short(show(x)))
	}
}

// refuses checks that a text is refused.
func refuses[T any](t *testing.T, read func(string) (T, int, api.Errno), s string, at int, why api.Errno) {
	t.Helper()
	reads(t, read, s, *new(T), fault{at, why})
}

// maker makes texts at random, and what each is to be read as. It goes by the grammar, from the left to the right, counts as it goes, and notes the first limit that it breaks.
type maker struct {
	*rand.Rand
	loose  bool // blanks, remarks and letters of words may be any
	astray bool // limits may be broken
	lean   int  // where not 0, nearly all goes into one another, this many deep
	text   strings.Builder
	last   string // the token that was written last
	ready  bool   // there is room for a token already
	begun  int
	nest   int
	wrong  fault
}

func newMaker(seed int64) *maker {
	m := &maker{Rand: rand.New(rand.NewSource(seed))}
	m.loose = m.Intn(3) > 0
	return m
}

// one tells of every n one.
func (m *maker) one(n int) bool { return m.Intn(n) == 0 }

func (m *maker) note(at int, why api.Errno) {
	if m.wrong.why == api.OK {
		m.wrong = fault{at, why}
	}
}

// here is where the next token will stand.
func (m *maker) here() int {
	if !m.ready && (m.loose || m.last != "") {
		m.text.WriteString(m.gap())
	}
	m.ready = true
	return m.text.Len()
}

func (m *maker) gap() string {
	gaps := []string{" "}
	if m.loose {
		gaps = []string{" ", " ", "\n", "\t", "\r\n", "  ", "/**/", "/* it's \" ( */", "-- é ; '\n", " /*-*/ --\n"}
	}
	gap := gaps[m.Intn(len(gaps))]
	if m.last == "-" {
		return " " + gap // else a remark might begin with it
	}
	return gap
}

// isSign tells whether a token is no word, name or literal.
func isSign(token string) bool {
	return strings.Contains(" ( ) , ; . * + - / = < > <= >= <> || ", " "+token+" ")
}

// token writes one, and tells where it stands.
func (m *maker) token(s string) int {
	if m.loose && !m.ready && isSign(m.last) != isSign(s) && m.one(2) {
		m.ready = true
	}
	at := m.here()
	m.text.WriteString(s)
	m.last, m.ready = s, false
	return at
}

// spelt is a word in letters of any size.
func (m *maker) spelt(s string) string {
	if !m.loose {
		return s
	}
	b := []byte(s)
	for i := range b {
		if m.one(2) {
			b[i] = strings.ToUpper(string(b[i]))[0]
		}
	}
	return string(b)
}

// words writes them one behind the other, and tells where the first one stands.
func (m *maker) words(words string) int {
	first := m.here()
	for _, word := range strings.Fields(words) {
		m.token(m.spelt(word))
	}
	return first
}

// maybe writes words, or leaves them out.
func (m *maker) maybe(words string) bool {
	if m.one(2) {
		return false
	}
	m.words(words)
	return true
}

func someNames() []string {
	return []string{"a", "b", "c", "t", "u", "x1", "_", "a_9", "A", "select", "End", "null", "primary", "a b", "é", `"`, `x"y""`, "1", "--", "'", ":p", strings.Repeat("n", 32), strings.Repeat("é", 16)}
}

func (m *maker) name() string {
	all := someNames()
	s := all[m.Intn(len(all))]
	written, _ := lex.Quote(s)
	switch {
	case written != s:
		m.token(written)
	case m.one(5):
		m.token(`"` + s + `"`)
	default:
		m.token(m.spelt(s))
	}
	return s
}

// some is how many there are in a list.
func (m *maker) some(most int) int {
	switch {
	case m.astray && m.one(20):
		return most + 1 + m.Intn(2)
	case m.one(40):
		return most
	}
	return 1 + m.Intn(min(3, most))
}

// many makes a list, with commas between.
func many[T any](m *maker, most int, what func() T) []T {
	var l []T
	for i := range m.some(most) {
		if i > 0 {
			m.token(",")
		}
		if i == most {
			m.note(m.here(), api.ErrLong)
		}
		l = append(l, what())
	}
	return l
}

// in makes what lies in brackets.
func (m *maker) in(what func()) {
	at := m.token("(")
	m.deeper(func() {
		if m.nest > api.MaxNest {
			m.note(at, api.ErrLong)
		}
		what()
	})
	m.token(")")
}

func (m *maker) deeper(what func()) {
	m.nest++
	what()
	m.nest--
}

func (m *maker) begin(at int) {
	m.begun++
	if m.begun > api.MaxExprs || m.nest > api.MaxNest {
		m.note(at, api.ErrLong)
	}
}

// op is an expression with Parts, begun at its place.
func (m *maker) op(at int, op string, parts ...api.Expr) api.Expr {
	m.begin(at)
	return api.Expr{Op: op, Parts: parts, At: at}
}

// expr makes one of the grammar's lines, by their names there; deep is how much may still lie in one another.
func (m *maker) expr(deep int) api.Expr {
	if m.lean > 0 {
		m.lean--
		return m.leaning()
	}
	return m.chain(deep, m.a, "or")
}

// leaning makes an expression that mostly lies in something.
func (m *maker) leaning() api.Expr {
	if m.one(3) {
		return m.chain(1, m.a, "or")
	}
	return m.b(3)
}

func (m *maker) a(deep int) api.Expr { return m.chain(deep, m.b, "and") }

func (m *maker) d(deep int) api.Expr { return m.chain(deep, m.m, "+", "-", "||") }

func (m *maker) m(deep int) api.Expr { return m.chain(deep, m.u, "*", "/") }

// chain makes Parts with signs between, of which the left ones lie deeper. The sign is begun ahead of the Part behind it.
func (m *maker) chain(deep int, part func(int) api.Expr, signs ...string) api.Expr {
	e := part(deep)
	for deep > 0 && m.one(5) {
		sign := signs[m.Intn(len(signs))]
		at := m.words(sign)
		m.begin(at)
		e = api.Expr{Op: sign, Parts: []api.Expr{e, part(deep - 1)}, At: at}
	}
	return e
}

func (m *maker) b(deep int) api.Expr {
	if deep <= 0 || !m.one(6) && m.lean == 0 || m.one(2) {
		return m.c(deep)
	}
	e := m.op(m.words("not"), "not", api.Expr{})
	m.deeper(func() { e.Parts[0] = m.b(deep - 1) })
	return e
}

func (m *maker) c(deep int) api.Expr {
	e := m.d(deep)
	if deep <= 0 || !m.one(4) {
		return e
	}
	switch m.Intn(3) {
	case 0:
		sign := []string{"=", "<>", "<", "<=", ">", ">="}[m.Intn(6)]
		e = m.op(m.token(sign), sign, e, api.Expr{})
		e.Parts[1] = m.d(deep - 1)
		return e
	case 1:
		at := m.words("is")
		not := m.one(2)
		if not {
			at = m.words("not")
		}
		e = m.negated(not, m.op(at, "is null", e))
		m.words("null")
		return e
	}
	return m.likeOrIn(deep, e)
}

func (m *maker) negated(not bool, e api.Expr) api.Expr {
	if not {
		return m.op(e.At, "not", e)
	}
	return e
}

func (m *maker) likeOrIn(deep int, e api.Expr) api.Expr {
	word := []string{"like", "in"}[m.Intn(2)]
	not := m.one(2)
	at := m.here()
	if not {
		m.words("not")
	}
	m.words(word)
	e = m.op(at, word, e)
	whole := m.negated(not, e)
	inner := &whole
	if not {
		inner = &whole.Parts[0]
	}
	if word == "like" {
		inner.Parts = append(inner.Parts, m.d(deep-1))
		return whole
	}
	m.in(func() {
		inner.Parts = append(inner.Parts, many(m, 64, func() api.Expr { return m.expr(deep - 2) })...)
	})
	return whole
}

func (m *maker) u(deep int) api.Expr {
	if deep <= 0 || !m.one(6) && m.lean == 0 || m.one(2) {
		return m.v(deep)
	}
	e := m.op(m.token("-"), "neg", api.Expr{})
	m.deeper(func() { e.Parts[0] = m.u(deep - 1) })
	return e
}

func (m *maker) v(deep int) api.Expr {
	if deep <= 0 || m.one(2) && m.lean == 0 {
		return m.leaf()
	}
	switch m.Intn(5) {
	case 0:
		return m.cast(deep)
	case 1:
		return m.call(deep)
	case 2:
		e := m.op(m.words("case"), "case")
		for _, word := range []string{"when", "then", "else"} {
			m.words(word)
			m.deeper(func() { e.Parts = append(e.Parts, m.expr(deep-1)) })
		}
		m.words("end")
		return e
	}
	var e api.Expr
	m.in(func() { e = m.expr(deep - 1) })
	return e
}

func (m *maker) cast(deep int) api.Expr {
	e := m.op(m.words("cast"), "cast")
	m.in(func() {
		e.Parts = append(e.Parts, m.expr(deep-1))
		m.words("as")
		e.Type, _ = m.typ()
	})
	return e
}

func (m *maker) call(deep int) api.Expr {
	i := m.Intn(3)
	word := []string{"length", "coalesce", "substr"}[i]
	e := m.op(m.words(word), word)
	m.in(func() {
		for j := range i + 1 {
			if j > 0 {
				m.token(",")
			}
			e.Parts = append(e.Parts, m.expr(deep-1))
		}
	})
	return e
}

func (m *maker) leaf() api.Expr {
	switch m.Intn(4) {
	case 0:
		return m.value()
	case 1:
		return m.param()
	}
	at := m.here()
	e := m.op(at, "column")
	e.Name = m.name()
	if m.one(3) {
		m.token(".")
		e.Of, e.Name = e.Name, m.name()
	}
	return e
}

// someLiterals are texts, and what they say.
func someLiterals() map[string]api.Value {
	return map[string]api.Value{
		"0": num(0), "7": num(7), "9223372036854775807": num(1<<63 - 1), "0.0": dec(0), "1.5": dec(15000), "0.0001": dec(1), "922337203685477.5807": dec(1<<63 - 1),
		"''": text(""), "'x'": text("x"), "'it''s'": text("it's"), "'Größe\n-- /* ('": text("Größe\n-- /* ("), "NULL": {}, "TRUE": truth(1), "FALSE": truth(0),
	}
}

func (m *maker) value() api.Expr {
	all := someLiterals()
	keys := make([]string, 0, len(all))
	for s := range all {
		keys = append(keys, s)
	}
	slices.Sort(keys)
	s := keys[m.Intn(len(keys))]
	e := api.Expr{Op: "value", Value: all[s]}
	if s[0] >= 'A' {
		s = m.spelt(strings.ToLower(s))
	}
	e.At = m.token(s)
	m.begin(e.At)
	return e
}

func (m *maker) param() api.Expr {
	name := []string{"p", "n", "x_1", "select"}[m.Intn(4)]
	e := m.op(m.token(":"+m.spelt(name)), "param")
	e.Name = name
	return e
}

// typ makes a type, and how many bytes it has at most.
func (m *maker) typ() (int, int) {
	typ := 1 + m.Intn(4)
	m.words([]string{"bigint", "decimal", "varchar", "boolean"}[typ-1])
	if typ != api.Text {
		return typ, 0
	}
	most := []int{1, 3, 4096}[m.Intn(3)]
	m.token("(")
	m.token(fmt.Sprint(most))
	m.token(")")
	return typ, most
}

// stmt makes a statement.
func (m *maker) stmt() api.Stmt {
	switch m.Intn(6) {
	case 0:
		return m.insert()
	case 1:
		return m.update()
	case 2:
		m.begun = 0
		x := api.Stmt{Kind: api.Delete, At: m.words("delete from")}
		x.Table = m.name()
		x.Where = m.condition("where")
		return x
	}
	return m.selects()
}

func (m *maker) any() api.Expr { return m.expr(m.Intn(4)) }

func (m *maker) condition(word string) api.Expr {
	if m.maybe(word) {
		return m.any()
	}
	return api.Expr{}
}

func (m *maker) insert() api.Stmt {
	m.begun = 0
	x := api.Stmt{Kind: api.Insert, At: m.words("insert into")}
	x.Table = m.name()
	m.in(func() { x.Cols = many(m, 16, m.name) })
	m.words("values")
	m.in(func() { x.Values = many(m, 16, m.any) })
	return x
}

func (m *maker) update() api.Stmt {
	m.begun = 0
	x := api.Stmt{Kind: api.Update, At: m.words("update")}
	x.Table = m.name()
	m.words("set")
	x.Sets = many(m, 16, func() api.Set {
		s := api.Set{At: m.here(), Name: m.name()}
		m.token("=")
		s.Expr = m.any()
		return s
	})
	x.Where = m.condition("where")
	return x
}

func (m *maker) selects() api.Stmt {
	m.begun = 0
	x := api.Stmt{Kind: api.Select, At: m.words("select"), Distinct: m.maybe("distinct")}
	x.Items = many(m, 16, m.item)
	m.words("from")
	x.From = m.froms()
	x.Where = m.condition("where")
	if m.maybe("group by") {
		x.Group = many(m, 16, m.any)
	}
	x.Having = m.condition("having")
	if m.maybe("order by") {
		x.Order = many(m, 16, func() api.Order {
			o := api.Order{At: m.here(), Name: m.name(), Desc: m.maybe("desc")}
			if !o.Desc {
				m.maybe("asc")
			}
			return o
		})
	}
	if m.maybe("limit") && m.one(2) {
		x.Limit = m.param()
	} else if m.last != "" && strings.EqualFold(m.last, "limit") {
		n := int64([]int{0, 1, 5000}[m.Intn(3)])
		x.Limit = m.op(m.token(fmt.Sprint(n)), "value")
		x.Limit.Value = num(n)
	}
	return x
}

func (m *maker) froms() []api.From {
	var l []api.From
	for i := range m.some(4) {
		if i > 0 {
			m.words("join")
		}
		f := api.From{At: m.here()}
		if i == 4 {
			m.note(f.At, api.ErrLong)
		}
		f.Table = m.name()
		f.As = f.Table
		if m.maybe("as") {
			f.As = m.name()
		}
		if i > 0 {
			m.words("on")
			f.On = m.any()
		}
		l = append(l, f)
	}
	return l
}

func (m *maker) item() api.Item {
	x := api.Item{At: m.here()}
	if m.one(3) {
		x.Agg = []string{"count", "sum", "min", "max", "avg"}[m.Intn(5)]
		m.words(x.Agg)
		x.Name = x.Agg
		m.in(func() {
			if x.Agg == "count" && m.one(2) {
				x.Star = true
				m.token("*")
				return
			}
			x.Distinct = m.maybe("distinct")
			x.Expr = m.any()
		})
	} else {
		x.Expr = m.any()
		if x.Expr.Op == "column" {
			x.Name = x.Expr.Name
		}
	}
	if m.one(3) {
		m.words("as")
		x.Name = m.name()
	}
	return x
}

// schema makes declarations.
func (m *maker) schema() []api.Decl {
	n := m.Intn(4)
	if m.one(100) {
		n = 256
	} else if m.astray && m.one(100) {
		n = 257
	}
	var l []api.Decl
	for i := range n {
		if i == 256 {
			m.note(m.here(), api.ErrLong)
		}
		if m.one(2) || n > 4 {
			l = append(l, m.table())
		} else {
			l = append(l, m.proc())
		}
		m.token(";")
	}
	return l
}

func (m *maker) partition() string {
	if m.maybe("partition by") {
		return m.name()
	}
	return ""
}

func (m *maker) column() api.Column {
	c := api.Column{Name: m.name()}
	c.Type, c.Most = m.typ()
	return c
}

func (m *maker) table() api.Decl {
	d := api.Decl{At: m.words("create table"), Cols: [][]string{nil}}
	d.Table.Keys = []api.Key{{}}
	d.Table.Name = m.name()
	cols, keys := m.some(16), m.some(16)-1
	declared := 0
	m.in(func() {
		for i := cols + keys; i > 0; i-- {
			if m.Intn(cols+keys-declared-len(d.Table.Cols)) < cols-len(d.Table.Cols) {
				m.elem(&d)
			} else {
				m.key(&d, declared)
				declared++
			}
			if i > 1 {
				m.token(",")
			}
		}
	})
	d.Part = m.partition()
	if m.maybe("limit") {
		d.Table.Most = []int{1, 9, 4096}[m.Intn(3)]
		m.token(fmt.Sprint(d.Table.Most))
	}
	return d
}

func (m *maker) elem(d *api.Decl) {
	if len(d.Table.Cols) == 16 {
		m.note(m.here(), api.ErrLong)
	}
	c := m.column()
	c.NotNull = m.maybe("not null")
	d.Table.Cols = append(d.Table.Cols, c)
}

func (m *maker) key(d *api.Decl, declared int) {
	at := m.here()
	word := []string{"primary", "unique", "index"}[m.Intn(3)]
	if word == "primary" && d.Table.Keys[0].Name != "" {
		if !m.astray || !m.one(3) {
			word = "index"
		} else {
			m.note(at, api.ErrForm)
		}
	}
	if declared == 16 {
		m.note(at, api.ErrLong)
	}
	m.words(word)
	k := api.Key{Name: "primary", Unique: word != "index"}
	if word == "primary" {
		m.words("key")
	} else {
		k.Name = m.name()
	}
	var cols []string
	m.in(func() { cols = many(m, 4, m.name) })
	if word == "primary" {
		d.Table.Keys[0], d.Cols[0] = k, cols
	} else {
		d.Table.Keys, d.Cols = append(d.Table.Keys, k), append(d.Cols, cols)
	}
}

func (m *maker) proc() api.Decl {
	at := m.words("create procedure")
	d := api.Decl{At: at, Proc: api.Proc{At: at, Name: m.name()}}
	m.in(func() {
		if m.one(2) {
			d.Proc.Params = many(m, 16, m.column)
		}
	})
	d.Proc.Part = m.partition()
	m.words("as begin")
	for i := range m.some(32) {
		if i == 32 {
			m.note(m.here(), api.ErrLong)
		}
		d.Proc.Steps = append(d.Proc.Steps, m.step())
		m.token(";")
	}
	m.words("end")
	return d
}

func (m *maker) step() api.Step {
	s := api.Step{At: m.here(), Kind: api.Run}
	switch m.Intn(4) {
	case 0:
		s.Kind = api.Let
		m.words("let")
		s.Name = m.name()
		m.token("=")
		s.Stmt = m.selects()
	case 1:
		s.Kind = api.Abort
		m.words("abort")
		s.Text = []string{"", "no", "it's"}[m.Intn(3)]
		m.token("'" + strings.ReplaceAll(s.Text, "'", "''") + "'")
		m.words("if")
		m.begun = 0
		s.Cond = m.any()
	default:
		s.Stmt = m.stmt()
	}
	return s
}

// end leaves room behind the last token.
func (m *maker) end() string {
	if m.loose {
		m.here()
	}
	return m.text.String()
}

func num(n int64) api.Value   { return api.Value{Type: api.BigInt, Int: n} }
func dec(n int64) api.Value   { return api.Value{Type: api.Dec, Int: n} }
func text(s string) api.Value { return api.Value{Type: api.Text, Text: s} }
func truth(n int64) api.Value { return api.Value{Type: api.Bool, Int: n} }

// expressions goes through texts of expressions, some of which lie near a limit, and what each is to be read as.
func expressions(n int, tell func(s string, e api.Expr, wrong fault)) {
	for i := range n {
		m := newMaker(int64(i))
		m.astray = i%2 == 1
		switch m.Intn(4) {
		case 0:
			m.lean = m.Intn(18)
		case 1:
			tell(wide(m))
			continue
		}
		e := m.expr(5)
		tell(m.end(), e, m.wrong)
	}
}

// wide is an expression of about as many as there may be.
func wide(m *maker) (string, api.Expr, fault) {
	e := m.b(2)
	least := 230
	if m.astray {
		least = 260
	}
	for m.begun < least {
		at := m.words("and")
		m.begin(at)
		e = api.Expr{Op: "and", Parts: []api.Expr{e, m.b(2)}, At: at}
	}
	return m.end(), e, m.wrong
}

// statements goes through texts of statements, and what each is to be read as.
func statements(n int, tell func(s string, x api.Stmt, wrong fault)) {
	for i := range n {
		m := newMaker(int64(i) + 1<<20)
		m.astray = i%2 == 1
		x := m.stmt()
		tell(m.end(), x, m.wrong)
	}
}

// schemas goes through texts of declarations, and what each is to be read as.
func schemas(n int, tell func(s string, l []api.Decl, wrong fault)) {
	for i := range n {
		m := newMaker(int64(i) + 1<<30)
		m.astray = i%2 == 1
		l := m.schema()
		if m.text.Len() < api.MaxSource-100 {
			tell(m.end(), l, m.wrong)
		}
	}
}

// P9.1: texts of the grammar are read as the trees that they say, with all places; and if a limit is broken, the first one is told.
func TestMadeTexts(t *testing.T) {
	fine, refused := 0, map[api.Errno]int{}
	count := func(wrong fault) {
		if wrong.why == api.OK {
			fine++
		} else {
			refused[wrong.why]++
		}
	}
	expressions(5000, func(s string, e api.Expr, wrong fault) {
		reads(t, parse.Expr, s, e, wrong)
		count(wrong)
	})
	statements(6000, func(s string, x api.Stmt, wrong fault) {
		reads(t, parse.Stmt, s, x, wrong)
		count(wrong)
	})
	schemas(3000, func(s string, l []api.Decl, wrong fault) {
		reads(t, parse.Schema, s, l, wrong)
		count(wrong)
	})
	if fine < 8000 || refused[api.ErrLong] < 1000 || refused[api.ErrForm] < 10 {
		t.Error("too few of a kind:", fine, refused)
	}
}
