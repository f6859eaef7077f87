package catalog_test

import (
	"fmt"
	"math"
	"slices"
	"strings"
	"testing"

	"lockstep/api"
)

// calls is procedures with one parameter of each type, with all of them, with none; partitioned by one of them, or by none.
const calls = `CREATE TABLE t (a BIGINT, PRIMARY KEY (a));
CREATE PROCEDURE none () AS BEGIN DELETE FROM t; END;
CREATE PROCEDURE n (p BIGINT) AS BEGIN DELETE FROM t; END;
CREATE PROCEDURE d (p DECIMAL) AS BEGIN DELETE FROM t; END;
CREATE PROCEDURE v (p VARCHAR(5)) AS BEGIN DELETE FROM t; END;
CREATE PROCEDURE f (p BOOLEAN) AS BEGIN DELETE FROM t; END;
CREATE PROCEDURE four (p BIGINT, q DECIMAL, r VARCHAR(4096), s BOOLEAN) AS BEGIN DELETE FROM t; END;
CREATE PROCEDURE byq (p BIGINT, q DECIMAL, r VARCHAR(2)) PARTITION BY q AS BEGIN DELETE FROM t; END;
CREATE PROCEDURE byr (p BIGINT, q DECIMAL, r VARCHAR(2)) PARTITION BY r AS BEGIN DELETE FROM t; END;
CREATE PROCEDURE byp (p BIGINT, q DECIMAL, r VARCHAR(2)) PARTITION BY p AS BEGIN DELETE FROM t; END;
`

// mostWhole is the greatest BIGINT that is a DECIMAL.
const mostWhole = math.MaxInt64 / api.Scale

// P11.5: arguments that fit, each as its parameter's type.
func TestBind(t *testing.T) {
	c := made(t, calls)
	for _, x := range []struct {
		name       string
		args, want api.Row
	}{
		{"none", nil, nil}, {"none", api.Row{}, nil},
		{"n", api.Row{num(5)}, api.Row{num(5)}}, {"n", api.Row{num(math.MaxInt64)}, api.Row{num(math.MaxInt64)}}, {"n", api.Row{num(math.MinInt64)}, api.Row{num(math.MinInt64)}}, {"n", api.Row{null()}, api.Row{null()}},
		{"d", api.Row{dec(5)}, api.Row{dec(5)}}, {"d", api.Row{num(5)}, api.Row{dec(50000)}}, {"d", api.Row{num(-5)}, api.Row{dec(-50000)}}, {"d", api.Row{num(0)}, api.Row{dec(0)}}, {"d", api.Row{null()}, api.Row{null()}},
		{"d", api.Row{num(mostWhole)}, api.Row{dec(9223372036854770000)}}, {"d", api.Row{num(-mostWhole)}, api.Row{dec(-9223372036854770000)}}, {"d", api.Row{dec(math.MaxInt64)}, api.Row{dec(math.MaxInt64)}}, {"d", api.Row{dec(math.MinInt64)}, api.Row{dec(math.MinInt64)}},
		{"v", api.Row{text("")}, api.Row{text("")}}, {"v", api.Row{text("abcde")}, api.Row{text("abcde")}}, {"v", api.Row{text("éé1")}, api.Row{text("éé1")}}, {"v", api.Row{null()}, api.Row{null()}}, {"v", api.Row{text("\x00")}, api.Row{text("\x00")}},
		{"f", api.Row{truth(1)}, api.Row{truth(1)}}, {"f", api.Row{truth(0)}, api.Row{truth(0)}}, {"f", api.Row{null()}, api.Row{null()}},
		{"four", api.Row{num(1), num(2), text(strings.Repeat("x", 4096)), truth(1)}, api.Row{num(1), dec(20000), text(strings.Repeat("x", 4096)), truth(1)}},
		{"four", make(api.Row, 4), make(api.Row, 4)},
		{"byp", api.Row{num(1), null(), null()}, api.Row{num(1), null(), null()}}, {"byq", api.Row{null(), num(1), null()}, api.Row{null(), dec(10000), null()}}, {"byr", api.Row{null(), null(), text("")}, api.Row{null(), null(), text("")}},
		// What its type does not name, a value loses.
		{"four", api.Row{{Type: api.BigInt, Int: 1, Text: "x"}, {Type: api.BigInt, Int: 1, Text: "x"}, {Type: api.Text, Int: 1, Text: "x"}, {Type: api.Bool, Int: 1, Text: "x"}}, api.Row{num(1), dec(10000), text("x"), truth(1)}},
		{"v", api.Row{{Type: api.Null, Int: 7, Text: strings.Repeat("x", 9999)}}, api.Row{null()}},
	} {
		if got, why := c.Bind(x.name, x.args); !slices.Equal(got, x.want) || why != api.OK {
			t.Errorf("%s of %s: %s %v, not %s", x.name, short(show(x.args)), short(show(got)), why, short(show(x.want)))
		}
	}
}

// P11.5: arguments that do not fit, each for one reason alone.
func TestWrongArgs(t *testing.T) {
	c := made(t, calls)
	long := text(strings.Repeat("x", 4097))
	for _, x := range []struct {
		name string
		args api.Row
		why  api.Errno
	}{
		{"", nil, api.ErrName}, {"t", nil, api.ErrName}, {"N", api.Row{num(1)}, api.ErrName}, {"zz", api.Row{{Type: 9}}, api.ErrName},
		{"none", api.Row{null()}, api.ErrArgs}, {"n", nil, api.ErrArgs}, {"n", api.Row{num(1), num(2)}, api.ErrArgs}, {"four", make(api.Row, 3), api.ErrArgs}, {"four", make(api.Row, 5), api.ErrArgs}, {"byp", nil, api.ErrArgs}, {"n", make(api.Row, 10000), api.ErrArgs},
		{"n", api.Row{{Type: 5}}, api.ErrArg}, {"n", api.Row{{Type: -1}}, api.ErrArg}, {"f", api.Row{truth(2)}, api.ErrArg}, {"f", api.Row{truth(-1)}, api.ErrArg}, {"n", api.Row{truth(2)}, api.ErrArg}, {"v", api.Row{text("\xff")}, api.ErrForm}, {"n", api.Row{text("\xff")}, api.ErrForm}, {"v", api.Row{long}, api.ErrLong}, {"n", api.Row{long}, api.ErrLong}, {"four", api.Row{null(), null(), long, null()}, api.ErrLong},
		{"n", api.Row{dec(10000)}, api.ErrType}, {"n", api.Row{text("1")}, api.ErrType}, {"n", api.Row{truth(1)}, api.ErrType}, {"d", api.Row{text("1.0")}, api.ErrType}, {"d", api.Row{truth(1)}, api.ErrType}, {"v", api.Row{num(1)}, api.ErrType}, {"v", api.Row{dec(1)}, api.ErrType}, {"v", api.Row{truth(0)}, api.ErrType}, {"f", api.Row{num(1)}, api.ErrType}, {"f", api.Row{dec(10000)}, api.ErrType}, {"f", api.Row{text("TRUE")}, api.ErrType},
		{"d", api.Row{num(mostWhole + 1)}, api.ErrOver}, {"d", api.Row{num(-mostWhole - 1)}, api.ErrOver}, {"d", api.Row{num(math.MaxInt64)}, api.ErrOver}, {"d", api.Row{num(math.MinInt64)}, api.ErrOver},
		{"v", api.Row{text("abcdef")}, api.ErrLong}, {"v", api.Row{text("ééé")}, api.ErrLong}, {"v", api.Row{text(strings.Repeat("x", 4096))}, api.ErrLong},
		{"byp", api.Row{null(), num(1), text("x")}, api.ErrArgs}, {"byq", api.Row{num(1), null(), text("x")}, api.ErrArgs}, {"byr", api.Row{num(1), num(1), null()}, api.ErrArgs}, {"byr", make(api.Row, 3), api.ErrArgs}, {"byr", api.Row{num(1), num(1), {Type: api.Null, Int: 1, Text: "x"}}, api.ErrArgs},
	} {
		if got, why := c.Bind(x.name, x.args); len(got) != 0 || why != x.why {
			t.Errorf("%s of %s: %s %v, not %v", x.name, short(show(x.args)), short(show(got)), why, x.why)
		}
	}
}

// someArgs are values of all kinds, and, for each of the parameters of byp, byq, byr, what each is wrong with (as its partition's, too).
func someArgs() []api.Value {
	return []api.Value{null(), num(1), num(mostWhole + 1), dec(7), text("ab"), text("abc"), text("\xff"), text(strings.Repeat("x", 4097)), truth(1), truth(2), {Type: 7}}
}

// plainBind is what the chapter says of one argument.
func plainBind(v api.Value, typ, most int, part bool) (api.Value, api.Errno) {
	switch {
	case v.Type < 0 || v.Type > 4 || v.Type == api.Bool && v.Int != 0 && v.Int != 1:
		return null(), api.ErrArg
	case v.Type == api.Text && len(v.Text) > 4096:
		return null(), api.ErrLong
	case v.Type == api.Text && v.Text == "\xff":
		return null(), api.ErrForm
	case v.Type != api.Null && v.Type != typ && (v.Type != api.BigInt || typ != api.Dec):
		return null(), api.ErrType
	case v.Type == api.BigInt && typ == api.Dec && v.Int > 922337203685477:
		return null(), api.ErrOver
	case v.Type == api.Text && len(v.Text) > most:
		return null(), api.ErrLong
	case v.Type == api.Null && part:
		return null(), api.ErrArgs
	case v.Type == api.BigInt && typ == api.Dec:
		return dec(v.Int * 10000), api.OK
	}
	return v, api.OK
}

// P11.5: of two wrong args the first one is told; all of three values of all kinds, of all three partitions.
func TestFirstWrongArg(t *testing.T) {
	c := made(t, calls)
	types := []int{api.BigInt, api.Dec, api.Text}
	for part, name := range []string{"byp", "byq", "byr"} {
		for _, a := range someArgs() {
			for _, b := range someArgs() {
				for _, d := range someArgs() {
					args, want, first := api.Row{a, b, d}, api.Row{}, api.OK
					for i, v := range args {
						bound, why := plainBind(v, types[i], 2, i == part)
						want = append(want, bound)
						if first == api.OK {
							first = why
						}
					}
					if first != api.OK {
						want = nil
					}
					if got, why := c.Bind(name, args); !slices.Equal(got, want) || why != first {
						t.Errorf("%s of %s: %s %v, not %s %v", name, short(show(args)), short(show(got)), why, short(show(want)), first)
					}
				}
			}
		}
	}
}

// P11.5: as many parameters as there may be.
func TestManyArgs(t *testing.T) {
	var ps []string
	args, want := api.Row{}, api.Row{}
	for i := range 16 {
		ps = append(ps, fmt.Sprintf("p%d DECIMAL", i))
		args, want = append(args, num(int64(i))), append(want, dec(int64(i)*10000))
	}
	c := made(t, "CREATE PROCEDURE f ("+strings.Join(ps, ", ")+") PARTITION BY p15 AS BEGIN ABORT '' IF TRUE; END;")
	if got, why := c.Bind("f", args); !slices.Equal(got, want) || why != api.OK {
		t.Error(got, why)
	}
	args[15] = null()
	if got, why := c.Bind("f", args); len(got) != 0 || why != api.ErrArgs {
		t.Error(got, why)
	}
	args[0] = truth(1)
	if got, why := c.Bind("f", args); len(got) != 0 || why != api.ErrType {
		t.Error(got, why)
	}
}
