package value_test

import (
	"math"
	"strings"
	"testing"

	"lockstep/api"
	"lockstep/value"
)

// P1.6: what each type is as another one.
func TestCast(t *testing.T) {
	for _, x := range []struct {
		v    api.Value
		to   int
		want api.Value
		why  api.Errno
	}{
		{num(5), api.Dec, dec(50000), api.OK}, {num(-922337203685477), api.Dec, dec(-9223372036854770000), api.OK}, {num(922337203685478), api.Dec, null, api.ErrOver}, {num(-922337203685478), api.Dec, null, api.ErrOver}, {num(math.MinInt64), api.Dec, null, api.ErrOver},
		{dec(19999), api.BigInt, num(1), api.OK}, {dec(-19999), api.BigInt, num(-1), api.OK}, {dec(-9999), api.BigInt, num(0), api.OK}, {dec(math.MaxInt64), api.BigInt, num(922337203685477), api.OK}, {dec(math.MinInt64), api.BigInt, num(-922337203685477), api.OK},
		{num(1), api.Bool, null, api.ErrType}, {dec(10000), api.Bool, null, api.ErrType}, {yes, api.BigInt, null, api.ErrType}, {no, api.Dec, null, api.ErrType},
		{num(-12), api.Text, text("-12"), api.OK}, {dec(-5000), api.Text, text("-0.5"), api.OK}, {dec(20000), api.Text, text("2.0"), api.OK}, {yes, api.Text, text("TRUE"), api.OK}, {no, api.Text, text("FALSE"), api.OK},
		{text("it's"), api.Text, text("it's"), api.OK}, {text("'a'"), api.Text, text("'a'"), api.OK}, {text("'a'"), api.BigInt, null, api.ErrForm},
		{text("7"), api.BigInt, num(7), api.OK}, {text("7"), api.Dec, dec(70000), api.OK}, {text("-7.25"), api.Dec, dec(-72500), api.OK}, {text("7.0"), api.BigInt, null, api.ErrForm}, {text("-0.0"), api.Dec, dec(0), api.OK},
		{text("TRUE"), api.Bool, yes, api.OK}, {text("FALSE"), api.Bool, no, api.OK}, {text("true"), api.Bool, null, api.ErrForm}, {text("1"), api.Bool, null, api.ErrForm}, {text("TRUE"), api.BigInt, null, api.ErrForm},
		{text(""), api.BigInt, null, api.ErrForm}, {text(" 7"), api.BigInt, null, api.ErrForm}, {text("007"), api.Dec, null, api.ErrForm}, {text("NULL"), api.BigInt, null, api.ErrForm}, {text("NULL"), api.Dec, null, api.ErrForm}, {text("NULL"), api.Bool, null, api.ErrForm},
		{text("9223372036854775807"), api.BigInt, num(math.MaxInt64), api.OK}, {text("9223372036854775808"), api.BigInt, null, api.ErrOver}, {text("922337203685478"), api.Dec, null, api.ErrOver}, {text("9223372036854775808"), api.Dec, null, api.ErrOver}, {text("922337203685477.5808"), api.Dec, null, api.ErrOver},
		{text(strings.Repeat("x", api.MaxText)), api.Dec, null, api.ErrForm}, {text(strings.Repeat("9", api.MaxText)), api.BigInt, null, api.ErrOver},
	} {
		if v, e := value.Cast(x.v, x.to); v != x.want || e != x.why {
			t.Errorf("Cast(%.40v, %d): %v %v, not %v %v", x.v, x.to, v, e, x.want, x.why)
		}
	}
}

// P1.6: NULL is NULL as any type; a value is itself as its own, without what that does not name.
func TestCastToItself(t *testing.T) {
	for to := api.BigInt; to <= api.Bool; to++ {
		if v, e := value.Cast(api.Value{Int: 3, Text: "x"}, to); v != null || e != api.OK {
			t.Error(to, v, e)
		}
	}
	for _, v := range append(possible(), littered()...) {
		if v.Type == api.Null {
			continue
		}
		if w, e := value.Cast(v, v.Type); w != cleaned(v) || e != api.OK {
			t.Errorf("Cast(%.40v) to its own type: %.40v %v", v, w, e)
		}
	}
}

// P1.6: a type that is none comes ahead of a value that can't be.
func TestCastRefuses(t *testing.T) {
	for _, to := range []int{api.Null, -1, 5, math.MaxInt, math.MinInt} {
		for _, v := range []api.Value{null, num(1), text("\xff"), {Type: 9}} {
			if w, e := value.Cast(v, to); w != null || e != api.ErrArg {
				t.Errorf("Cast(%v, %d): %v %v", v, to, w, e)
			}
		}
	}
	for _, x := range impossible() {
		for to := api.BigInt; to <= api.Bool; to++ {
			if w, e := value.Cast(x.v, to); w != null || e != x.why {
				t.Errorf("Cast(%.40v, %d): %v %v, not %v", x.v, to, w, e, x.why)
			}
		}
	}
}

// P1.7: the literals.
func TestPrint(t *testing.T) {
	for _, x := range []struct {
		v    api.Value
		want string
	}{
		{null, "NULL"}, {api.Value{Int: 1, Text: "x"}, "NULL"}, {yes, "TRUE"}, {no, "FALSE"},
		{num(0), "0"}, {num(-12), "-12"}, {num(100), "100"}, {num(math.MaxInt64), "9223372036854775807"}, {num(math.MinInt64), "-9223372036854775808"},
		{dec(0), "0.0"}, {dec(15000), "1.5"}, {dec(20000), "2.0"}, {dec(1), "0.0001"}, {dec(-1), "-0.0001"}, {dec(10), "0.001"}, {dec(100), "0.01"}, {dec(1010), "0.101"}, {dec(-5000), "-0.5"}, {dec(-10000), "-1.0"}, {dec(1000000), "100.0"}, {dec(10001), "1.0001"},
		{dec(math.MaxInt64), "922337203685477.5807"}, {dec(math.MinInt64), "-922337203685477.5808"},
		{text(""), "''"}, {text("a"), "'a'"}, {text("it's"), "'it''s'"}, {text("'"), "''''"}, {text("''"), "''''''"}, {text("Größe\n\\\""), "'Größe\n\\\"'"},
	} {
		if s, e := value.Print(x.v); s != x.want || e != api.OK {
			t.Errorf("Print(%v): %s %v, not %s", x.v, s, e, x.want)
		}
	}
	for _, x := range impossible() {
		if s, e := value.Print(x.v); s != "" || e != x.why {
			t.Errorf("Print(%.40v): %.40q %v, not %v", x.v, s, e, x.why)
		}
	}
}

// P1.8: what is a literal, beside what Print writes.
func TestParse(t *testing.T) {
	for s, want := range map[string]api.Value{
		"NULL": null, "TRUE": yes, "FALSE": no, "0": num(0), "-1": num(-1), "10": num(10), "9223372036854775807": num(math.MaxInt64), "-9223372036854775808": num(math.MinInt64),
		"0.0": dec(0), "-0.0": dec(0), "-0.0000": dec(0), "-0.5": dec(-5000), "0.5": dec(5000), "1.5": dec(15000), "1.50": dec(15000), "1.5000": dec(15000), "1.05": dec(10500), "10.0001": dec(100001), "922337203685477.5807": dec(math.MaxInt64), "-922337203685477.5808": dec(math.MinInt64),
		"''": text(""), "''''": text("'"), "'it''s'": text("it's"), "'1'": text("1"), "'NULL'": text("NULL"), "'\x00'": text("\x00"), "'ö\n'": text("ö\n"), "''''''": text("''"), "'''a'''": text("'a'"),
		"'" + strings.Repeat("x", api.MaxText) + "'":     text(strings.Repeat("x", api.MaxText)),
		"'" + strings.Repeat("''", api.MaxText) + "'":    text(strings.Repeat("'", api.MaxText)),
		"'" + strings.Repeat("é", api.MaxText/2) + "'":   text(strings.Repeat("é", api.MaxText/2)),
		"'" + strings.Repeat("a''", api.MaxText/2) + "'": text(strings.Repeat("a'", api.MaxText/2)),
	} {
		if v, e := value.Parse(s); v != want || e != api.OK {
			t.Errorf("Parse(%.40q): %.40v %v", s, v, e)
		}
	}
}

// P1.8: what is none, and for which reason.
func TestParseRefuses(t *testing.T) {
	for s, why := range map[string]api.Errno{
		"": api.ErrForm, " ": api.ErrForm, "null": api.ErrForm, "True": api.ErrForm, "NULL ": api.ErrForm, "FALSE\x00": api.ErrForm, "x": api.ErrForm, "\xff": api.ErrForm, "+1": api.ErrForm, "-": api.ErrForm, "--1": api.ErrForm, "- 1": api.ErrForm, "-0": api.ErrForm, "00": api.ErrForm, "007": api.ErrForm, "-01": api.ErrForm, "1 ": api.ErrForm, "1_0": api.ErrForm, "0x1": api.ErrForm, "1e3": api.ErrForm, "１": api.ErrForm,
		".": api.ErrForm, "1.": api.ErrForm, ".5": api.ErrForm, "-.5": api.ErrForm, "1.23456": api.ErrForm, "1.00000": api.ErrForm, "00.5": api.ErrForm, "-00.5": api.ErrForm, "1.2.3": api.ErrForm, "1.-5": api.ErrForm, "1. 5": api.ErrForm, "1,5": api.ErrForm,
		"'": api.ErrForm, "'a": api.ErrForm, "a'": api.ErrForm, "'''": api.ErrForm, "'a'b'": api.ErrForm, "'a''": api.ErrForm, "'a' ": api.ErrForm, "'a'''b'": api.ErrForm, "'\xff'": api.ErrForm, "'\xc3'": api.ErrForm, "\"a\"": api.ErrForm,
		"9223372036854775808": api.ErrOver, "-9223372036854775809": api.ErrOver, "18446744073709551616": api.ErrOver, "99999999999999999999999": api.ErrOver, "922337203685477.5808": api.ErrOver, "-922337203685477.5809": api.ErrOver, "922337203685478.0": api.ErrOver, "99999999999999999999.1": api.ErrOver,
		"99999999999999999999x": api.ErrForm, "99999999999999999999.": api.ErrForm, "99999999999999999999.12345": api.ErrForm,
		strings.Repeat("9", 2*api.MaxText+2): api.ErrOver, strings.Repeat("9", 2*api.MaxText+3): api.ErrLong, strings.Repeat("x", 2*api.MaxText+2): api.ErrForm, strings.Repeat("x", 2*api.MaxText+3): api.ErrLong,
		"'" + strings.Repeat("x", api.MaxText+1) + "'": api.ErrLong, "'" + strings.Repeat("\xff", api.MaxText+1) + "'": api.ErrLong, "'" + strings.Repeat("\xff", api.MaxText) + "'": api.ErrForm, "'" + strings.Repeat("x", api.MaxText+1): api.ErrForm, "'" + strings.Repeat("x", api.MaxText) + "'x'": api.ErrForm,
		"'" + strings.Repeat("''", api.MaxText+1) + "'": api.ErrLong,
	} {
		if v, e := value.Parse(s); v != null || e != why {
			t.Errorf("Parse(%.40q): %.40v %v, not %v", s, v, e, why)
		}
	}
}

// P1.11: what is printed is read as what it was; a whole number as a DECIMAL and back is itself.
func TestThereAndBack(t *testing.T) {
	for _, v := range append(possible(), littered()...) {
		s, e := value.Print(v)
		w, f := value.Parse(s)
		if w != cleaned(v) || e != api.OK || f != api.OK {
			t.Errorf("%.40v: %.40s %v, %.40v %v", v, s, e, w, f)
		}
	}
	for _, n := range edgeInts() {
		if d, e := value.Cast(num(n), api.Dec); e == api.OK {
			if v, e := value.Cast(d, api.BigInt); v != num(n) || e != api.OK {
				t.Error(n, v, e)
			}
		} else if n >= -922337203685477 && n <= 922337203685477 {
			t.Error(n, e)
		}
		if v, _ := value.Cast(dec(n), api.Dec); v != dec(n) {
			t.Error(n, v)
		}
		if n%api.Scale == 0 {
			w, _ := value.Cast(dec(n), api.BigInt)
			if d, e := value.Cast(w, api.Dec); d != dec(n) || e != api.OK {
				t.Error(n, d, e)
			}
		}
	}
}
