package aggr_test

import (
	"bytes"
	"fmt"
	"maps"
	"math"
	"math/big"
	"slices"
	"strings"
	"testing"

	"lockstep/aggr"
	"lockstep/api"
	"lockstep/value"
)

const (
	most     = 1 << 40 // values of a part
	mostOnce = 65536   // of distinct
)

func num(n int64) api.Value   { return api.Value{Type: api.BigInt, Int: n} }
func dec(n int64) api.Value   { return api.Value{Type: api.Dec, Int: n} }
func text(s string) api.Value { return api.Value{Type: api.Text, Text: s} }
func truth(n int64) api.Value { return api.Value{Type: api.Bool, Int: n} }
func null() api.Value         { return api.Value{} }

func flag(is bool) api.Value {
	if is {
		return truth(1)
	}
	return truth(0)
}

// kind is what New is asked for.
type kind struct {
	agg            string
	star, distinct bool
	typ            int
}

// kinds are all that New takes.
func kinds() []kind {
	var l []kind
	for _, typ := range []int{api.Null, api.BigInt, api.Dec, api.Text, api.Bool} {
		l = append(l, kind{"count", true, false, typ})
		for _, distinct := range []bool{false, true} {
			for _, agg := range []string{"count", "min", "max", "sum", "avg"} {
				if typ < api.Text || agg != "sum" && agg != "avg" {
					l = append(l, kind{agg, false, distinct, typ})
				}
			}
		}
	}
	return l
}

// made is a part of that kind which took the values.
func made(t *testing.T, k kind, l ...api.Value) *aggr.Part {
	t.Helper()
	p, why := aggr.New(k.agg, k.star, k.distinct, k.typ)
	if why != api.OK || p == nil {
		t.Fatalf("New(%v): %v %v", k, p, why)
	}
	for _, v := range l {
		ok(t, p.Add(v), k, v)
	}
	return p
}

func ok(t *testing.T, why api.Errno, what ...any) {
	t.Helper()
	if why != api.OK {
		t.Fatalf("%v of %.300s", why, fmt.Sprint(what...))
	}
}

func refused(t *testing.T, got, want api.Errno, what ...any) {
	t.Helper()
	if got != want {
		t.Errorf("%v, not %v, of %.300s", got, want, fmt.Sprint(what...))
	}
}

// both is a part and the model of what it holds.
func both(t *testing.T, k kind, l ...api.Value) (*aggr.Part, *model) {
	t.Helper()
	return made(t, k, l...), modelOf(k, l...)
}

// model is what the chapter says of a part, plainly: how often it holds which value (of star: all rows under NULL).
type model struct {
	kind
	held map[api.Value]int64
}

func modelOf(k kind, l ...api.Value) *model {
	m := &model{k, map[api.Value]int64{}}
	for _, v := range l {
		m.add(v)
	}
	return m
}

// add is Add of a value that can be.
func (m *model) add(v api.Value) api.Errno {
	if m.star {
		v = null()
	} else if v.Type == api.Null {
		return api.OK
	} else if v.Type != m.typ {
		return api.ErrType
	}
	v = plain(v)
	if m.distinct && m.held[v] == 1 {
		return api.OK
	}
	if m.distinct && len(m.held) == mostOnce || m.len() == most {
		return api.ErrLong
	}
	m.held[v]++
	return api.OK
}

func (m *model) merge(o *model) api.Errno {
	if o.kind != m.kind {
		return api.ErrArg
	}
	next := maps.Clone(m.held)
	for v, often := range o.held {
		next[v] += often
		if m.distinct {
			next[v] = 1
		}
	}
	n := &model{m.kind, next}
	if n.len() > most || m.distinct && n.len() > mostOnce {
		return api.ErrLong
	}
	m.held = next
	return api.OK
}

func (m *model) clone() *model { return &model{m.kind, maps.Clone(m.held)} }

// len of distinct is not counted one by one, as it is asked with each of many values.
func (m *model) len() int64 {
	if m.distinct {
		return int64(len(m.held))
	}
	n := int64(0)
	for _, often := range m.held {
		n += often
	}
	return n
}

func (m *model) sum() *big.Int {
	sum := new(big.Int)
	for v, often := range m.held {
		sum.Add(sum, new(big.Int).Mul(big.NewInt(v.Int), big.NewInt(often)))
	}
	return sum
}

// ordered is its values, each once, in their order.
func (m *model) ordered() []api.Value {
	return slices.SortedFunc(maps.Keys(m.held), value.Order)
}

func (m *model) value() (api.Value, api.Errno) {
	if m.agg == "count" {
		return num(m.len()), api.OK
	}
	if m.len() == 0 {
		return null(), api.OK
	}
	l := m.ordered()
	switch m.agg {
	case "min":
		return l[0], api.OK
	case "max":
		return l[len(l)-1], api.OK
	case "sum":
		return asValue(m.typ, m.sum())
	}
	parts := m.sum()
	if m.typ == api.BigInt {
		parts.Mul(parts, big.NewInt(10000))
	}
	return asValue(api.Dec, nearest(parts, big.NewInt(m.len())))
}

// nearest is a / b, of two that are as near the one farther from nought; b is above nought.
func nearest(a, b *big.Int) *big.Int {
	double := new(big.Int).Mul(b, big.NewInt(2))
	q := new(big.Int).Mul(new(big.Int).Abs(a), big.NewInt(2))
	q.Add(q, b).Div(q, double)
	return q.Mul(q, big.NewInt(int64(a.Sign())))
}

func asValue(typ int, n *big.Int) (api.Value, api.Errno) {
	if !n.IsInt64() {
		return null(), api.ErrOver
	}
	return api.Value{Type: typ, Int: n.Int64()}, api.OK
}

// told is the values that follow the row in its bytes.
func (m *model) told() []api.Value {
	switch {
	case m.distinct:
		return m.ordered()
	case m.agg == "count":
		return nil
	case m.agg == "sum" || m.agg == "avg":
		first, second := new(big.Int).DivMod(m.sum(), big.NewInt(1<<48), new(big.Int))
		return []api.Value{num(first.Int64()), num(second.Int64())}
	case m.len() == 0:
		return nil
	}
	v, _ := m.value()
	return []api.Value{v}
}

func (m *model) bytes() []byte {
	l := m.told()
	return laid(head(m.kind, m.len(), int64(len(l))), l...)
}

// head is the row with which a part's bytes begin.
func head(k kind, size, many int64) api.Row {
	return api.Row{text(k.agg), flag(k.star), flag(k.distinct), num(int64(k.typ)), num(size), num(many)}
}

// laid is a row's bytes, and behind them those of values.
func laid(r api.Row, l ...api.Value) []byte {
	var b []byte
	for _, v := range r {
		b = append(b, valueBytes(v)...)
	}
	b = append(b, 0)
	for _, v := range l {
		b = append(b, valueBytes(v)...)
	}
	return b
}

// valueBytes is a value's bytes as chapter 2 has them.
func valueBytes(v api.Value) []byte {
	switch v.Type {
	case api.Null:
		return []byte{1}
	case api.Text:
		return slices.Concat([]byte{3}, []byte(strings.ReplaceAll(v.Text, "\x00", "\x00\xff")), []byte{0, 0})
	case api.Bool:
		return []byte{4, byte(v.Int)}
	}
	n := big.NewInt(v.Int)
	if v.Type == api.BigInt {
		n.Mul(n, big.NewInt(10000))
	}
	n.Add(n, new(big.Int).Lsh(big.NewInt(1), 79))
	return slices.Concat([]byte{2}, n.FillBytes(make([]byte, 10)), []byte{byte(v.Type)})
}

// plain is a value without what its type does not name.
func plain(v api.Value) api.Value {
	switch v.Type {
	case api.Null:
		return null()
	case api.Text:
		return text(v.Text)
	}
	v.Text = ""
	return v
}

// stands: the part tells all that the model does.
func stands(t *testing.T, p *aggr.Part, m *model, what ...any) {
	t.Helper()
	told := func() string { return fmt.Sprintf("%.200s (%+v)", fmt.Sprint(what...), m.kind) }
	if int64(p.Len()) != m.len() {
		t.Fatalf("Len %d, not %d, of %s", p.Len(), m.len(), told())
	}
	v, why := p.Value()
	if want, wantWhy := m.value(); v != want || why != wantWhy {
		t.Fatalf("Value %.60v %v, not %.60v %v, of %s", v, why, want, wantWhy, told())
	}
	if b, want := p.Bytes(), m.bytes(); !bytes.Equal(b, want) {
		t.Fatalf("Bytes %.300x, not %.300x, of %s", b, want, told())
	}
}

// valuesOf are values of a type, to its ends.
func valuesOf(typ int) []api.Value {
	switch typ {
	case api.Text:
		return []api.Value{text(""), text("a"), text("ab"), text("b"), text("B"), text("a\x00"), text("\x00"), text("é"), text("\u20ac"), text("\U0001f600"), text("1"), text("true"), text(strings.Repeat("z", api.MaxText))}
	case api.Bool:
		return []api.Value{truth(0), truth(1)}
	case api.BigInt, api.Dec:
		var l []api.Value
		for _, n := range []int64{0, 1, -1, 2, -2, 3, 10000, -10000, 5000, 1<<48 - 1, 1 << 48, -1 << 48, -1<<48 - 1, math.MaxInt64 - 1, math.MaxInt64, math.MinInt64 + 1, math.MinInt64} {
			l = append(l, api.Value{Type: typ, Int: n})
		}
		return l
	}
	return nil
}

// allValues are those of all types, and NULLs.
func allValues() []api.Value {
	return slices.Concat([]api.Value{null(), {Int: 7}, {Text: "x"}, {Int: -1, Text: "\xff"}}, valuesOf(api.BigInt), valuesOf(api.Dec), valuesOf(api.Text), valuesOf(api.Bool))
}

// stuffed is a value that holds what its type does not name.
func stuffed(v api.Value) api.Value {
	switch v.Type {
	case api.Null:
		return api.Value{Int: 5, Text: "null"}
	case api.Text:
		v.Int = 9
	default:
		v.Text = "\xffx"
	}
	return v
}

type flawed struct {
	v   api.Value
	why api.Errno
}

// impossible are values that can't be, and why.
func impossible() []flawed {
	long := strings.Repeat("a", api.MaxText)
	return []flawed{
		{api.Value{Type: -1}, api.ErrArg}, {api.Value{Type: 5}, api.ErrArg}, {api.Value{Type: math.MaxInt}, api.ErrArg}, {api.Value{Type: math.MinInt}, api.ErrArg},
		{truth(2), api.ErrArg}, {truth(-1), api.ErrArg}, {truth(math.MinInt64), api.ErrArg},
		{text(long + "b"), api.ErrLong}, {text("\xff" + long), api.ErrLong},
		{text("\xff"), api.ErrForm}, {text("a\xc3"), api.ErrForm}, {text(long[1:] + "\xc3"), api.ErrForm},
	}
}

// some are few values of a type, one of them twice.
func some(typ int) []api.Value {
	switch typ {
	case api.BigInt, api.Dec:
		v := func(n int64) api.Value { return api.Value{Type: typ, Int: n} }
		return []api.Value{v(3), v(-5), v(3), v(10)}
	case api.Text:
		return []api.Value{text("b"), text("a\x00"), text("b"), text("é")}
	case api.Bool:
		return []api.Value{truth(1), truth(1), truth(0)}
	}
	return nil
}

// doubled is a part merged with itself so often.
func doubled(t *testing.T, p *aggr.Part, m *model, times int) {
	t.Helper()
	for i := range times {
		ok(t, p.Merge(p), "double", i)
		ok(t, m.merge(m.clone()), "model", i)
	}
}

func permutations(l []api.Value, tell func([]api.Value)) {
	var from func(at int)
	from = func(at int) {
		if at == len(l) {
			tell(l)
			return
		}
		for i := at; i < len(l); i++ {
			l[at], l[i] = l[i], l[at]
			from(at + 1)
			l[at], l[i] = l[i], l[at]
		}
	}
	from(0)
}
