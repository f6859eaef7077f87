package lex_test

import (
	"math"
	"math/rand"
	"slices"
	"strings"
	"testing"

	"lockstep/api"
	"lockstep/lex"
	"lockstep/value"
)

func allSigns() []string {
	return []string{"(", ")", ",", ";", ".", "*", "+", "-", "/", "=", "<", ">", "<=", ">=", "<>", "||"}
}

// possible are tokens that can be, of every kind but End.
func possible() []api.Token {
	var l []api.Token
	for _, s := range []string{"a", "_", "_9", "select", "az_09", strings.Repeat("x", api.MaxName)} {
		l = append(l, word(s), param(s), quoted(s))
	}
	for _, s := range []string{"A", "1", " ", "\n", "é", "\"", "a\"b", "'", "--", "/*", "\ufffd", "a b", strings.Repeat("\"", api.MaxName), strings.Repeat("é", api.MaxName/2)} {
		l = append(l, quoted(s))
	}
	for _, n := range []int64{0, 1, 9, 10, 9999, 10000, 10001, 15000, math.MaxInt64 - 1, math.MaxInt64} {
		l = append(l, literal(num(n)), literal(dec(n)))
	}
	for _, s := range []string{"", "a", "'", "''", "it's", "\"", "--", "/*", "\n", "Größe", "\ufffd", "\x01", "NULL", strings.Repeat("t", api.MaxText), strings.Repeat("'", api.MaxText)} {
		l = append(l, literal(text(s)))
	}
	for _, s := range allSigns() {
		l = append(l, sign(s))
	}
	return l
}

// impossible are tokens that can't be.
func impossible() []api.Token {
	l := []api.Token{{}, {Kind: -1, Text: "a"}, {Kind: 7, Text: "a"}, {Kind: math.MaxInt, Text: "a"}, {Kind: math.MinInt, Text: "a"}}
	for _, s := range []string{"", "A", "aB", "1", "1a", "é", "a b", " a", "a\n", "a\x00", "\xff", "a-b", "\"a\"", ":a", strings.Repeat("x", api.MaxName+1)} {
		l = append(l, word(s), param(s))
	}
	for _, s := range []string{"", "\x00", "a\x00", "\xff", "a\xc3", strings.Repeat("x", api.MaxName+1), strings.Repeat("\"", api.MaxName+1), strings.Repeat("é", api.MaxName/2) + "x"} {
		l = append(l, quoted(s))
	}
	for _, n := range []int64{-1, -10000, math.MinInt64} {
		l = append(l, literal(num(n)), literal(dec(n)))
	}
	for _, s := range []string{"\x00", "a\x00b", "\xff", "a\xc3", strings.Repeat("t", api.MaxText+1)} {
		l = append(l, literal(text(s)))
	}
	for _, v := range []api.Value{{}, {Type: api.Bool}, {Type: api.Bool, Int: 1}, {Type: api.Bool, Int: 2}, {Type: -1}, {Type: 5, Int: 1, Text: "a"}} {
		l = append(l, literal(v))
	}
	for _, s := range []string{"", " ", "a", "1", "|", "!", "!=", "==", "=<", "=>", "<<", "<=>", "|||", "--", "/*", "*/", "()", "( ", " (", ":", "'", "\"", "''", "(\x00", "\xff"} {
		l = append(l, sign(s))
	}
	return l
}

// printed is what a token that can be ought to be written as.
func printed(t api.Token) string {
	switch t.Kind {
	case api.Quoted:
		return "\"" + strings.Join(strings.Split(t.Text, "\""), "\"\"") + "\""
	case api.Param:
		return ":" + t.Text
	case api.Literal:
		s, _ := value.Print(t.Value)
		return s
	}
	return t.Text
}

// P3.4: as the chapter says each kind.
func TestPrint(t *testing.T) {
	for _, x := range []struct {
		l    []api.Token
		want string
	}{
		{nil, ""}, {[]api.Token{}, ""}, {[]api.Token{end()}, ""}, {[]api.Token{word("a")}, "a"}, {[]api.Token{word("a"), end()}, "a"}, {[]api.Token{word("a"), word("b")}, "a b"}, {[]api.Token{word("select")}, "select"}, {[]api.Token{quoted("a")}, "\"a\""}, {[]api.Token{quoted("a\"b")}, "\"a\"\"b\""}, {[]api.Token{param("p"), end()}, ":p"},
		{[]api.Token{literal(num(7))}, "7"}, {[]api.Token{literal(dec(15000))}, "1.5"}, {[]api.Token{literal(dec(20000))}, "2.0"}, {[]api.Token{literal(dec(1))}, "0.0001"}, {[]api.Token{literal(text("it's"))}, "'it''s'"}, {[]api.Token{literal(text(""))}, "''"},
		{[]api.Token{word("a"), sign("<="), param("p"), end()}, "a <= :p"}, {[]api.Token{sign("-"), sign("-"), literal(num(1))}, "- - 1"}, {[]api.Token{sign("/"), sign("*")}, "/ *"}, {[]api.Token{sign("<"), sign("=")}, "< ="}, {[]api.Token{literal(num(1)), sign("."), literal(num(5))}, "1 . 5"}, {[]api.Token{literal(text("a")), literal(text("b"))}, "'a' 'b'"}, {[]api.Token{word("t"), sign("."), quoted("C"), sign("("), sign(")"), sign(";")}, "t . \"C\" ( ) ;"},
	} {
		if s, why := lex.Print(x.l); s != x.want || why != api.OK {
			t.Errorf("Print(%v): %q %v, not %q", x.l, s, why, x.want)
		}
	}
	var parts []string
	for _, token := range possible() {
		parts = append(parts, printed(token))
		for _, l := range [][]api.Token{{token}, {token, end()}} {
			if s, why := lex.Print(l); s != printed(token) || why != api.OK {
				t.Errorf("Print(%s): %.80q %v", brief(l), s, why)
			}
		}
	}
	if s, why := lex.Print(possible()); s != strings.Join(parts, " ") || why != api.OK {
		t.Error(len(s), why)
	}
}

// P3.4: a token that can't be, wherever it stands; an End that is not the last one.
func TestPrintRefuses(t *testing.T) {
	fine := []api.Token{word("a"), sign("="), literal(num(1))}
	for _, bad := range impossible() {
		for at := range len(fine) + 1 {
			for _, last := range [][]api.Token{nil, {end()}} {
				l := slices.Concat(fine[:at], []api.Token{bad}, fine[at:], last)
				if s, why := lex.Print(l); s != "" || why != api.ErrArg {
					t.Errorf("Print(%s): %.80q %v", brief(l), s, why)
				}
			}
		}
		for _, l := range [][]api.Token{{bad}, {bad, end()}, {end(), bad}} {
			if s, why := lex.Print(l); s != "" || why != api.ErrArg {
				t.Errorf("Print(%s): %.80q %v", brief(l), s, why)
			}
		}
	}
	for _, l := range [][]api.Token{{end(), word("a")}, {end(), end()}, {word("a"), end(), word("b")}, {word("a"), end(), end()}, {end(), word("a"), end()}} {
		if s, why := lex.Print(l); s != "" || why != api.ErrArg {
			t.Errorf("Print(%v): %q %v", l, s, why)
		}
	}
}

// P3.4: 16384 tokens, the End among them, and one more.
func TestPrintMost(t *testing.T) {
	for _, token := range []api.Token{sign("("), word("ab"), literal(text("x y"))} {
		l := slices.Repeat([]api.Token{token}, 16384)
		want := strings.TrimSuffix(strings.Repeat(printed(token)+" ", 16384), " ")
		if s, why := lex.Print(l); s != want || why != api.OK {
			t.Error(len(s), why)
		}
		if s, why := lex.Print(append(l[:16383:16383], end())); s != want[:len(want)-len(printed(token))-1] || why != api.OK {
			t.Error(len(s), why)
		}
		for _, more := range []api.Token{token, end(), {}} {
			if s, why := lex.Print(append(l[:16384:16384], more)); s != "" || why != api.ErrArg {
				t.Error(len(s), why)
			}
		}
	}
}

// P3.4: places play no part, nor does what a token's kind does not name; what is handed in stays as it was, spare room too.
func TestPrintOfLittered(t *testing.T) {
	plain := []api.Token{word("a"), quoted("B"), literal(num(1)), literal(text("x")), param("p"), sign("+"), end()}
	l := slices.Clone(plain)
	for i := range l {
		l[i].At, l[i].Line, l[i].Col = -i, math.MaxInt, math.MinInt
	}
	l[0].Value, l[4].Value, l[6].Text = text("\xff"), num(-1), "\xff"
	l[2].Text, l[2].Value.Text, l[3].Value.Int = "\xff", "\xff", -1
	kept := slices.Clone(l)
	want, _ := lex.Print(plain)
	if s, why := lex.Print(l); s != want || s != "a \"B\" 1 'x' :p +" || why != api.OK {
		t.Errorf("%q %v", s, why)
	}
	if s, why := lex.Print(l[:3]); s != "a \"B\" 1" || why != api.OK {
		t.Errorf("%q %v", s, why)
	}
	if !slices.Equal(l, kept) {
		t.Error("changed", l)
	}
}

// P3.5: any two tokens beside one another are read again as they were.
func TestThereAndBackOfTwo(t *testing.T) {
	for _, a := range possible() {
		for _, b := range possible() {
			thereAndBack(t, []api.Token{a, b})
		}
		if t.Failed() {
			return
		}
	}
}

// P3.5: so are longer lists, if their text is not too long.
func TestThereAndBack(t *testing.T) {
	r := rand.New(rand.NewSource(5))
	all := possible()
	for range 1000 {
		l := make([]api.Token, r.Intn(40))
		for i := range l {
			l[i] = all[r.Intn(len(all))]
		}
		thereAndBack(t, l)
		thereAndBack(t, append(l, end()))
	}
	for _, n := range []int{7, 8, 9, 16384} {
		thereAndBack(t, slices.Repeat([]api.Token{literal(text(strings.Repeat("'", api.MaxText)))}, n))
		thereAndBack(t, slices.Repeat([]api.Token{sign("<=")}, n))
	}
}

func thereAndBack(t *testing.T, l []api.Token) {
	t.Helper()
	s, why := lex.Print(l)
	if why != api.OK {
		t.Errorf("Print(%s): %v", brief(l), why)
	}
	back, at, why := lex.Tokens(s)
	if len(s) > api.MaxSource {
		if len(back) != 0 || at != 0 || why != api.ErrLong {
			t.Errorf("%.80q: %d %v", s, at, why)
		}
		return
	}
	if n := len(l); n == 0 || l[n-1].Kind != api.End {
		l = append(l[:n:n], end())
	}
	if at != 0 || why != api.OK || !slices.Equal(unplaced(back), l) {
		t.Errorf("%.80q: %s %d %v", s, brief(back), at, why)
	}
}

// P3.5: what is read can be printed, and reads the same again.
func TestReadPrintedRead(t *testing.T) {
	for _, s := range append(fineTexts(3000), someTexts(5000)...) {
		l, _, why := lex.Tokens(s)
		if why == api.OK {
			thereAndBack(t, unplaced(l))
		}
		thereAndBack(t, unplaced(slices.Collect(lex.Each(s))))
	}
}
