package value_test

import (
	"cmp"
	"math"
	"math/big"
	"strings"
	"testing"

	"lockstep/api"
	"lockstep/value"
)

var (
	null = api.Value{}
	yes  = api.Value{Type: api.Bool, Int: 1}
	no   = api.Value{Type: api.Bool}
)

func num(n int64) api.Value { return api.Value{Type: api.BigInt, Int: n} }

func dec(n int64) api.Value { return api.Value{Type: api.Dec, Int: n} }

func text(s string) api.Value { return api.Value{Type: api.Text, Text: s} }

// edgeInts are numbers at the ends of ranges and beside halves and noughts.
func edgeInts() []int64 {
	return []int64{
		math.MinInt64, math.MinInt64 + 1, math.MinInt64/10000 - 1, math.MinInt64 / 10000, -3037000500, -20000, -15000, -10001, -10000, -9999, -5001, -5000, -4999, -7, -3, -2, -1,
		0, 1, 2, 3, 7, 4999, 5000, 5001, 9999, 10000, 10001, 15000, 20000, 3037000500, math.MaxInt64 / 10000, math.MaxInt64/10000 + 1, math.MaxInt64 - 1, math.MaxInt64,
	}
}

func edgeNumbers() []api.Value {
	var l []api.Value
	for _, n := range edgeInts() {
		l = append(l, num(n), dec(n))
	}
	return l
}

// edgeTexts can be, all of them.
func edgeTexts() []api.Value {
	var l []api.Value
	for _, s := range []string{"", "a", "ab", "b", "'", "''", "it's", "Größe", "\x00", "\u2028", "\ufffd", "\U0010ffff", "NULL", "1.5", "\\", "%_", "line\nline", strings.Repeat("x", api.MaxText), strings.Repeat("'", api.MaxText), strings.Repeat("é", api.MaxText/2)} {
		l = append(l, text(s))
	}
	return l
}

// possible are values that can be, of every type.
func possible() []api.Value {
	l := append([]api.Value{null, no, yes}, edgeNumbers()...)
	return append(l, edgeTexts()...)
}

type wrong struct {
	v   api.Value
	why api.Errno
}

// impossible are values that can't be.
func impossible() []wrong {
	return []wrong{
		{api.Value{Type: -1}, api.ErrArg}, {api.Value{Type: 5}, api.ErrArg}, {api.Value{Type: math.MaxInt}, api.ErrArg}, {api.Value{Type: math.MinInt}, api.ErrArg},
		{api.Value{Type: api.Bool, Int: 2}, api.ErrArg}, {api.Value{Type: api.Bool, Int: -1}, api.ErrArg}, {api.Value{Type: api.Bool, Int: math.MinInt64}, api.ErrArg},
		{text(strings.Repeat("x", api.MaxText+1)), api.ErrLong}, {text(strings.Repeat("\xff", api.MaxText+1)), api.ErrLong}, {text("a" + strings.Repeat("é", api.MaxText/2)), api.ErrLong},
		{text("\xff"), api.ErrForm}, {text("a\xc3"), api.ErrForm}, {text("\xed\xa0\x80"), api.ErrForm}, {text("\xc0\x80"), api.ErrForm}, {text("\xf4\x90\x80\x80"), api.ErrForm}, {text(strings.Repeat("\xff", api.MaxText)), api.ErrForm},
	}
}

// littered are values with something in what their types do not name.
func littered() []api.Value {
	return []api.Value{
		{Type: api.Null, Int: 1, Text: "\xff"}, {Type: api.BigInt, Int: 3, Text: "\xff"}, {Type: api.Dec, Int: 30000, Text: strings.Repeat("x", api.MaxText+1)},
		{Type: api.Text, Int: 7, Text: "a"}, {Type: api.Bool, Int: 1, Text: "x"}, {Type: api.Bool, Text: "\xff"},
	}
}

// cleaned is a value without what its type does not name.
func cleaned(v api.Value) api.Value {
	switch v.Type {
	case api.Null:
		return null
	case api.Text:
		return text(v.Text)
	}
	return api.Value{Type: v.Type, Int: v.Int}
}

// rat is a number's size, reckoned by other means than the program's.
func rat(v api.Value) *big.Rat {
	if v.Type == api.Dec {
		return big.NewRat(v.Int, api.Scale)
	}
	return big.NewRat(v.Int, 1)
}

func isNumber(v api.Value) bool { return v.Type == api.BigInt || v.Type == api.Dec }

// P1.1: what can be, and what can't, for which reason.
func TestCheck(t *testing.T) {
	for _, v := range append(possible(), littered()...) {
		if why := value.Check(v); why != api.OK {
			t.Errorf("Check(%.40v): %v", v, why)
		}
	}
	for _, x := range impossible() {
		if why := value.Check(x.v); why != x.why {
			t.Errorf("Check(%.40v): %v, not %v", x.v, why, x.why)
		}
	}
}

// P1.2: one list of values, each ahead of all behind it.
func TestOrderOfAll(t *testing.T) {
	l := []api.Value{
		null,
		num(math.MinInt64), num(-922337203685478), dec(math.MinInt64), num(-922337203685477), dec(-9223372036854770000), num(-2), dec(-15000), num(-1), dec(-10000), dec(-5000), dec(-1),
		num(0), dec(0), dec(1), dec(9999), num(1), dec(10000), dec(10001), num(2), num(922337203685477), dec(math.MaxInt64), num(922337203685478), num(math.MaxInt64),
		text(""), text("\x00"), text("A"), text("a"), text("a\x00"), text("aa"), text("b"), text("é"), text("\xff"), text("\xff" + strings.Repeat("x", api.MaxText)),
		{Type: api.Bool, Int: math.MinInt64}, no, yes, {Type: api.Bool, Int: 2},
		{Type: math.MinInt, Int: 9}, {Type: -1, Int: -1, Text: "z"}, {Type: -1}, {Type: -1, Text: "a"}, {Type: -1, Text: "b"}, {Type: -1, Int: 1},
		{Type: 5, Int: math.MinInt64, Text: "z"}, {Type: 5, Int: math.MaxInt64}, {Type: 6, Int: math.MinInt64}, {Type: math.MaxInt},
	}
	for i, a := range l {
		for j, b := range l {
			if c := value.Order(a, b); c != cmp.Compare(i, j) {
				t.Errorf("Order(%.40v, %.40v): %d", a, b, c)
			}
			if is := value.Same(a, b); is != (i == j) {
				t.Errorf("Same(%.40v, %.40v): %t", a, b, is)
			}
		}
	}
}

// P1.2: numbers by their size, of which rationals tell.
func TestOrderOfNumbers(t *testing.T) {
	for _, a := range edgeNumbers() {
		for _, b := range edgeNumbers() {
			want := cmp.Or(rat(a).Cmp(rat(b)), cmp.Compare(a.Type, b.Type))
			if c := value.Order(a, b); c != want {
				t.Errorf("Order(%v, %v): %d, not %d", a, b, c, want)
			}
		}
	}
}

// P1.2: what a type does not name plays no part.
func TestOrderOfLittered(t *testing.T) {
	for _, v := range littered() {
		if !value.Same(v, cleaned(v)) || !value.Same(cleaned(v), v) {
			t.Errorf("%.40v is not the same as without what its type does not name", v)
		}
	}
}

// P1.2: rows by the first values that differ, then by how many they have.
func TestRows(t *testing.T) {
	for _, x := range []struct {
		a, b api.Row
		want int
	}{
		{nil, nil, 0}, {nil, api.Row{}, 0}, {nil, api.Row{null}, -1}, {api.Row{num(1)}, nil, 1},
		{api.Row{num(1)}, api.Row{num(1)}, 0}, {api.Row{num(1)}, api.Row{dec(10000)}, -1}, {api.Row{num(1)}, api.Row{num(1), null}, -1}, {api.Row{num(1), null}, api.Row{num(1)}, 1},
		{api.Row{num(2)}, api.Row{num(1), num(9)}, 1}, {api.Row{num(1), num(9)}, api.Row{num(2)}, -1}, {api.Row{num(1), text("b"), no}, api.Row{num(1), text("a"), yes}, 1},
		{api.Row{null, null}, api.Row{null, no}, -1}, {api.Row{{Type: 9}}, api.Row{{Type: -9}}, 1},
	} {
		if c := value.Rows(x.a, x.b); c != x.want {
			t.Errorf("Rows(%v, %v): %d, not %d", x.a, x.b, c, x.want)
		}
	}
}

// P1.10: of any three values, if a is not behind b and b not behind c, a is not behind c; turned about, the order is the opposite.
func TestOrderIsOne(t *testing.T) {
	l := append(possible(), littered()...)
	for _, x := range impossible() {
		l = append(l, x.v)
	}
	order := make([][]int, len(l))
	for i, a := range l {
		for _, b := range l {
			order[i] = append(order[i], value.Order(a, b))
		}
	}
	for i := range l {
		if order[i][i] != 0 || !value.Same(l[i], l[i]) {
			t.Errorf("%.40v is not the same as itself", l[i])
		}
		for j := range l {
			if order[i][j] != -order[j][i] {
				t.Errorf("%.40v, %.40v: %d, turned about %d", l[i], l[j], order[i][j], order[j][i])
			}
			if value.Same(l[i], l[j]) != (order[i][j] == 0) {
				t.Errorf("Same(%.40v, %.40v) is not Order 0", l[i], l[j])
			}
			for k := range l {
				if order[i][j] <= 0 && order[j][k] <= 0 && order[i][k] > 0 {
					t.Errorf("%.40v, %.40v, %.40v are no order", l[i], l[j], l[k])
				}
			}
		}
	}
}
