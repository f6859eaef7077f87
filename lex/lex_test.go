package lex_test

import (
	"slices"
	"strings"
	"testing"

	"lockstep/api"
	"lockstep/lex"
)

// tells checks what Tokens and Each tell of a text.
func tells(t *testing.T, s string, want said) {
	t.Helper()
	l, at, why := lex.Tokens(s)
	if at != want.at || why != want.why {
		t.Errorf("Tokens(%.60q): %d %v, not %d %v", s, at, why, want.at, want.why)
	}
	if want.why == api.OK && !slices.Equal(l, want.tokens) {
		t.Errorf("Tokens(%.60q): %s, not %s", s, brief(l), brief(want.tokens))
	}
	if want.why != api.OK && len(l) != 0 {
		t.Errorf("Tokens(%.60q): %s beside %v", s, brief(l), why)
	}
	if told := slices.Collect(lex.Each(s)); !slices.Equal(told, want.tokens) {
		t.Errorf("Each(%.60q): %s, not %s", s, brief(told), brief(want.tokens))
	}
}

// P3.1: the chapter's examples, with their places.
func TestExamples(t *testing.T) {
	tells(t, "Select x1 -- y\nFROM \"T\"", said{tokens: []api.Token{
		{Kind: api.Word, Text: "select", At: 0, Line: 1, Col: 1},
		{Kind: api.Word, Text: "x1", At: 7, Line: 1, Col: 8},
		{Kind: api.Word, Text: "from", At: 15, Line: 2, Col: 1},
		{Kind: api.Quoted, Text: "T", At: 20, Line: 2, Col: 6},
		{Kind: api.End, At: 23, Line: 2, Col: 9},
	}})
	tells(t, "1.50", said{tokens: []api.Token{{Kind: api.Literal, Value: dec(15000), At: 0, Line: 1, Col: 1}, {Kind: api.End, At: 4, Line: 1, Col: 5}}})
	tells(t, "1.", said{tokens: []api.Token{{Kind: api.Literal, Value: num(1), At: 0, Line: 1, Col: 1}, {Kind: api.Sign, Text: ".", At: 1, Line: 1, Col: 2}, {Kind: api.End, At: 2, Line: 1, Col: 3}}})
	tells(t, "1.23456", said{fault: fault{0, api.ErrForm}})
	tells(t, "'it''s'", said{tokens: []api.Token{{Kind: api.Literal, Value: text("it's"), At: 0, Line: 1, Col: 1}, {Kind: api.End, At: 7, Line: 1, Col: 8}}})
	tells(t, "'é", said{fault: fault{0, api.ErrOpen}})
	tells(t, ":p1", said{tokens: []api.Token{{Kind: api.Param, Text: "p1", At: 0, Line: 1, Col: 1}, {Kind: api.End, At: 3, Line: 1, Col: 4}}})
	tells(t, ": p", said{fault: fault{0, api.ErrName}})
	tells(t, "a<=b", said{tokens: []api.Token{{Kind: api.Word, Text: "a", At: 0, Line: 1, Col: 1}, {Kind: api.Sign, Text: "<=", At: 1, Line: 1, Col: 2}, {Kind: api.Word, Text: "b", At: 3, Line: 1, Col: 4}, {Kind: api.End, At: 4, Line: 1, Col: 5}}})
	tells(t, "a| b", said{tokens: []api.Token{{Kind: api.Word, Text: "a", At: 0, Line: 1, Col: 1}}, fault: fault{1, api.ErrRune}})
	tells(t, "\n'it''s'", said{tokens: []api.Token{{Kind: api.Literal, Value: text("it's"), At: 1, Line: 2, Col: 1}, {Kind: api.End, At: 8, Line: 2, Col: 8}}})
}

// P3.1: each kind of token, at its edges; the longest counts.
func TestKinds(t *testing.T) {
	for s, want := range map[string][]api.Token{
		"": {}, " \t\r\n": {}, "--": {}, "-- x": {}, "-- x\n": {}, "--x\ny": {word("y")}, "/**/": {}, "/***/": {}, "/* * / */a": {word("a")}, "/*/*/a": {word("a")}, "/* -- */a": {word("a")}, "-- /*\na": {word("a")}, "/*\n*/": {}, "--\r\na": {word("a")}, "---\na": {word("a")}, "-- é\ufffd": {}, "/* é\ufffd' \" */": {},
		"a": {word("a")}, "_": {word("_")}, "__9": {word("__9")}, "azAZ_09": {word("azaz_09")}, "SELECT": {word("select")}, "a b": {word("a"), word("b")}, "a\"b\"": {word("a"), quoted("b")}, "a'b'": {word("a"), literal(text("b"))}, "a:b": {word("a"), param("b")}, "a--b": {word("a")}, "a/**/b": {word("a"), word("b")},
		"\"A\"": {quoted("A")}, "\"select\"": {quoted("select")}, "\" \"": {quoted(" ")}, "\"\"\"\"": {quoted("\"")}, "\"a\"\"b\"": {quoted("a\"b")}, "\"'\"": {quoted("'")}, "\"--\"": {quoted("--")}, "\"/*\"": {quoted("/*")}, "\"\n\"": {quoted("\n")}, "\"\ufffd\"": {quoted("\ufffd")}, "\"1\"\"\"\"2\"": {quoted("1\"\"2")}, "\"a\" \"b\"": {quoted("a"), quoted("b")},
		"0": {literal(num(0))}, "7": {literal(num(7))}, "007": {literal(num(7))}, "000": {literal(num(0))}, "1a": {literal(num(1)), word("a")}, "1_": {literal(num(1)), word("_")}, "1.5": {literal(dec(15000))}, "0.0": {literal(dec(0))}, "00.0001": {literal(dec(1))}, "1.2": {literal(dec(12000))}, "1.23": {literal(dec(12300))}, "1.234": {literal(dec(12340))}, "1.2345": {literal(dec(12345))}, "1.0000": {literal(dec(10000))},
		"1..2": {literal(num(1)), sign("."), sign("."), literal(num(2))}, "1.2.3": {literal(dec(12000)), sign("."), literal(num(3))}, "1.2.": {literal(dec(12000)), sign(".")}, "1.a": {literal(num(1)), sign("."), word("a")}, "1 .5": {literal(num(1)), sign("."), literal(num(5))}, "1. 5": {literal(num(1)), sign("."), literal(num(5))}, ".5": {sign("."), literal(num(5))}, "1.'2'": {literal(num(1)), sign("."), literal(text("2"))}, "1./**/2": {literal(num(1)), sign("."), literal(num(2))}, "1.--2": {literal(num(1)), sign(".")}, "-1": {sign("-"), literal(num(1))}, "+1": {sign("+"), literal(num(1))}, "1e5": {literal(num(1)), word("e5")}, "0x10": {literal(num(0)), word("x10")},
		"9223372036854775807": {literal(num(9223372036854775807))}, "0009223372036854775807": {literal(num(9223372036854775807))}, "922337203685477.5807": {literal(dec(9223372036854775807))}, "000922337203685477.5807": {literal(dec(9223372036854775807))}, "922337203685477.58": {literal(dec(9223372036854775800))},
		"''": {literal(text(""))}, "''''": {literal(text("'"))}, "'a'": {literal(text("a"))}, "'a''b'": {literal(text("a'b"))}, "'a' 'b'": {literal(text("a")), literal(text("b"))}, "'\"'": {literal(text("\""))}, "'--'": {literal(text("--"))}, "'/*'": {literal(text("/*"))}, "'Größe\n\r\t'": {literal(text("Größe\n\r\t"))}, "'\\'": {literal(text("\\"))}, "'\ufffd'": {literal(text("\ufffd"))}, "'NULL'": {literal(text("NULL"))}, "'''''a'": {literal(text("''a"))}, "'\x01\x7f'": {literal(text("\x01\x7f"))},
		":p": {param("p")}, ":P1": {param("p1")}, ":_": {param("_")}, ":select": {param("select")}, ":a:b": {param("a"), param("b")}, ":a.b": {param("a"), sign("."), word("b")},
		"(),;.*+-/=<>": {sign("("), sign(")"), sign(","), sign(";"), sign("."), sign("*"), sign("+"), sign("-"), sign("/"), sign("="), sign("<>")}, "< >": {sign("<"), sign(">")}, "<=": {sign("<=")}, ">=": {sign(">=")}, "||": {sign("||")}, "||||": {sign("||"), sign("||")}, "<=>": {sign("<="), sign(">")}, "<>=": {sign("<>"), sign("=")}, "=<": {sign("="), sign("<")}, "><": {sign(">"), sign("<")}, "<<=": {sign("<"), sign("<=")}, ">>=": {sign(">"), sign(">=")}, "=>=": {sign("="), sign(">=")}, "==": {sign("="), sign("=")}, "- -": {sign("-"), sign("-")}, "/ *": {sign("/"), sign("*")}, "*/": {sign("*"), sign("/")}, "//": {sign("/"), sign("/")}, "**": {sign("*"), sign("*")}, "<--": {sign("<")}, "*/*a*/": {sign("*")}, "-/**/-": {sign("-"), sign("-")},
	} {
		l, at, why := lex.Tokens(s)
		if at != 0 || why != api.OK || !slices.Equal(unplaced(l), append(want, end())) {
			t.Errorf("Tokens(%q): %v %d %v, not %v", s, l, at, why, want)
		}
	}
}

// P3.1: what can't be, and where; two things that are wrong among it.
func TestRefused(t *testing.T) {
	for s, want := range map[string]fault{
		"'": {0, api.ErrOpen}, "a 'x": {2, api.ErrOpen}, "'''": {0, api.ErrOpen}, "'a''": {0, api.ErrOpen}, "'a' '": {4, api.ErrOpen}, "\"": {0, api.ErrOpen}, "é\"": {0, api.ErrRune}, "a\"b": {1, api.ErrOpen}, "\"a\"\"": {0, api.ErrOpen}, "\"\"\"": {0, api.ErrOpen}, "/*": {0, api.ErrOpen}, "/*/": {0, api.ErrOpen}, "/* *": {0, api.ErrOpen}, "a /* b": {2, api.ErrOpen}, "/**/ /*": {5, api.ErrOpen}, "'a\n": {0, api.ErrOpen}, "1/*": {1, api.ErrOpen},
		"'\xff": {0, api.ErrOpen}, "'\x00": {0, api.ErrOpen}, "\"\xff": {0, api.ErrOpen}, "/*\xff": {0, api.ErrOpen}, "/*\x00 *": {0, api.ErrOpen}, "'" + strings.Repeat("x", 5000): {0, api.ErrOpen}, "\"" + strings.Repeat("x", 50): {0, api.ErrOpen},
		"\"\"": {0, api.ErrName}, "a \"\"": {2, api.ErrName}, "\"\" \"": {0, api.ErrName}, ":": {0, api.ErrName}, "a :": {2, api.ErrName}, ": p": {0, api.ErrName}, ":1": {0, api.ErrName}, "::a": {0, api.ErrName}, ":\"a\"": {0, api.ErrName}, ":'a'": {0, api.ErrName}, ":/**/a": {0, api.ErrName}, ":é": {0, api.ErrName}, ":\xff": {0, api.ErrName}, ":\x00": {0, api.ErrName},
		"1.23456": {0, api.ErrForm}, "1.00000": {0, api.ErrForm}, "00.00000": {0, api.ErrForm}, "a+1.23456": {2, api.ErrForm}, "1.2 3.12345": {4, api.ErrForm}, "99999999999999999999.12345": {0, api.ErrForm}, "1.23456\xff": {0, api.ErrForm}, "1." + strings.Repeat("0", 50000): {0, api.ErrForm},
		"9223372036854775808": {0, api.ErrOver}, "-9223372036854775808": {1, api.ErrOver}, "18446744073709551616": {0, api.ErrOver}, "99999999999999999999": {0, api.ErrOver}, "922337203685477.5808": {0, api.ErrOver}, "922337203685478.0": {0, api.ErrOver}, "9223372036854775807.0": {0, api.ErrOver}, "1844674407370955.1616": {0, api.ErrOver}, "a 99999999999999999999 !": {2, api.ErrOver}, strings.Repeat("9", 9000): {0, api.ErrOver}, strings.Repeat("9", 60000) + ".5": {0, api.ErrOver},
		"|": {0, api.ErrRune}, "a|b": {1, api.ErrRune}, "|||": {2, api.ErrRune}, "| |": {0, api.ErrRune}, "!": {0, api.ErrRune}, "a != b": {2, api.ErrRune}, "aé": {1, api.ErrRune}, "1é": {1, api.ErrRune}, "a\u00a0b": {1, api.ErrRune}, "\f": {0, api.ErrRune}, "\v": {0, api.ErrRune}, "\ufffd": {0, api.ErrRune}, "\ufeffa": {0, api.ErrRune}, "a$": {1, api.ErrRune}, "[": {0, api.ErrRune}, "`a`": {0, api.ErrRune}, "\\": {0, api.ErrRune}, "\u212a": {0, api.ErrRune}, "\u0663": {0, api.ErrRune}, "-- \xff": {3, api.ErrRune}, "a -- \x00": {5, api.ErrRune}, "é '": {0, api.ErrRune}, "\xff \"\"": {0, api.ErrRune}, "! \xff": {0, api.ErrRune}, "\xff !": {0, api.ErrRune},
		"\"\" \xff": {0, api.ErrName}, "\"\xff\" \"\"": {1, api.ErrRune}, "'\x00' '": {1, api.ErrRune}, "/*\xff*/ 1.23456": {2, api.ErrRune}, "1.23456 /*\xff*/": {0, api.ErrForm}, "--\xff\n\xfe": {2, api.ErrRune}, "/*\xff*/'": {2, api.ErrRune}, "\"" + strings.Repeat("x", 32) + "\xff\"": {0, api.ErrName}, "\"" + strings.Repeat("x", 31) + "\xff\"": {32, api.ErrRune}, "'\x00" + strings.Repeat("x", 4096) + "'": {0, api.ErrLong}, "'\x00" + strings.Repeat("x", 4095) + "'": {1, api.ErrRune},
	} {
		x := say(s)
		x.fault = want
		tells(t, s, x)
	}
}

// P3.1: words, names in quotes and parameters of MaxName bytes, texts of MaxText bytes, and of one more: bytes of what is meant, not of what is written.
func TestLengths(t *testing.T) {
	for _, x := range []struct {
		open, one, inner, close string
		most                    int
		kind                    int
		why                     api.Errno
	}{
		{"", "x", "x", "", api.MaxName, api.Word, api.ErrName}, {"", "X", "x", "", api.MaxName, api.Word, api.ErrName}, {"", "_", "_", "", api.MaxName, api.Word, api.ErrName},
		{":", "x", "x", "", api.MaxName, api.Param, api.ErrName}, {":", "X", "x", "", api.MaxName, api.Param, api.ErrName},
		{"\"", "x", "x", "\"", api.MaxName, api.Quoted, api.ErrName}, {"\"", "\"\"", "\"", "\"", api.MaxName, api.Quoted, api.ErrName}, {"\"", "é", "é", "\"", api.MaxName, api.Quoted, api.ErrName}, {"\"", "\U0001f600", "\U0001f600", "\"", api.MaxName, api.Quoted, api.ErrName},
		{"'", "x", "x", "'", api.MaxText, api.Literal, api.ErrLong}, {"'", "''", "'", "'", api.MaxText, api.Literal, api.ErrLong}, {"'", "é", "é", "'", api.MaxText, api.Literal, api.ErrLong}, {"'", "\n", "\n", "'", api.MaxText, api.Literal, api.ErrLong},
	} {
		n := x.most / len(x.inner)
		want := api.Token{Kind: x.kind, Text: strings.Repeat(x.inner, n)}
		if x.kind == api.Literal {
			want = literal(text(want.Text))
		}
		fine := x.open + strings.Repeat(x.one, n) + x.close
		if l, at, why := lex.Tokens(" " + fine + " a"); at != 0 || why != api.OK || !slices.Equal(unplaced(l), []api.Token{want, word("a"), end()}) {
			t.Errorf("%.20q: %d %v", fine, at, why)
		}
		long := x.open + strings.Repeat(x.one, n+1) + x.close
		if l, at, why := lex.Tokens("a " + long + " \xff"); at != 2 || why != x.why || len(l) != 0 {
			t.Errorf("%.20q: %d tokens, %d %v, not %v", long, len(l), at, why, x.why)
		}
		if l := slices.Collect(lex.Each("a " + long + " \xff")); !slices.Equal(unplaced(l), []api.Token{word("a")}) {
			t.Errorf("Each, %.20q: %v", long, l)
		}
	}
}

// P3.1: texts of MaxSource bytes, and of one more, whatever stands in them.
func TestMaxSource(t *testing.T) {
	for _, s := range []string{strings.Repeat(" ", api.MaxSource), strings.Repeat("(", api.MaxSource), strings.Repeat("a ", api.MaxSource/2), "--" + strings.Repeat("x", api.MaxSource-2), "/*" + strings.Repeat("é", api.MaxSource/2-2) + "*/", strings.Repeat("0", api.MaxSource), strings.Repeat("\n", api.MaxSource)} {
		if len(s) != api.MaxSource {
			t.Fatal(len(s))
		}
		l, at, why := lex.Tokens(s)
		if at != 0 || why != api.OK || len(l) == 0 || l[len(l)-1].Kind != api.End || l[len(l)-1].At != api.MaxSource {
			t.Errorf("%.20q: %d tokens, %d %v", s, len(l), at, why)
		}
		if n := len(slices.Collect(lex.Each(s))); n != len(l) {
			t.Errorf("%.20q: %d, not %d", s, n, len(l))
		}
		for _, more := range []string{s + " ", " " + s, s + "!", "\xff" + s, "'" + s, s + s} {
			tells(t, more, said{fault: fault{0, api.ErrLong}})
		}
	}
	if l, _, why := lex.Tokens(strings.Repeat("(", api.MaxSource)); len(l) != api.MaxSource+1 || why != api.OK {
		t.Error(len(l), why)
	}
}

// P3.1: bytes that are no characters, and the character 0, in each kind of token, in remarks, and between tokens.
func TestBadCharacters(t *testing.T) {
	for _, bad := range badTexts() {
		for _, x := range []struct {
			ahead, behind string
			at            int
			why           api.Errno
		}{
			{"", "", 0, api.ErrRune}, {" ", " ", 1, api.ErrRune}, {"a", "b", 1, api.ErrRune}, {"1", "2", 1, api.ErrRune}, {"1.", "2", 2, api.ErrRune}, {"1.5", "2", 3, api.ErrRune}, {":a", "b", 2, api.ErrRune}, {":", "b", 0, api.ErrName}, {"<", "=", 1, api.ErrRune}, {"|", "|", 0, api.ErrRune}, {"-", "-", 1, api.ErrRune}, {"/", "*", 1, api.ErrRune},
			{"\"", "\"", 1, api.ErrRune}, {"\"ab", "c\"", 3, api.ErrRune}, {"\"\"\"", "\"", 3, api.ErrRune}, {"\"", "", 0, api.ErrOpen}, {"'", "'", 1, api.ErrRune}, {"'é''", "'", 5, api.ErrRune}, {"'", "", 0, api.ErrOpen}, {"'", "' '", 1, api.ErrRune},
			{"--", "", 2, api.ErrRune}, {"-- é", "\na", 5, api.ErrRune}, {"--\n", "", 3, api.ErrRune}, {"/*", "*/", 2, api.ErrRune}, {"a /* é\n", "*/ b", 8, api.ErrRune}, {"/**", "/ */", 3, api.ErrRune}, {"/*", "", 0, api.ErrOpen}, {"/*", "*/ /*", 2, api.ErrRune},
		} {
			s := x.ahead + bad + x.behind
			want := say(s)
			want.fault = fault{x.at, x.why}
			tells(t, s, want)
		}
	}
}

// P3.1: all texts of at most four of these pieces.
func TestAllShort(t *testing.T) {
	pieces := []string{"a", "Z", "0", ".", "'", "\"", ":", "-", "/", "*", "<", "=", "|", " ", "\n", "é", "\xff", "\x00"}
	all := []string{""}
	from := 0
	for range 4 {
		for to := len(all); from < to; from++ {
			for _, p := range pieces {
				all = append(all, all[from]+p)
			}
		}
	}
	for _, s := range all {
		tells(t, s, say(s))
		if t.Failed() {
			return
		}
	}
}

// P3.1: longer texts, most of which can't be.
func TestSome(t *testing.T) {
	kinds := map[api.Errno]int{}
	for _, s := range someTexts(20000) {
		want := say(s)
		kinds[want.why]++
		tells(t, s, want)
		if t.Failed() {
			return
		}
	}
	for _, why := range []api.Errno{api.OK, api.ErrRune, api.ErrOpen, api.ErrName, api.ErrLong, api.ErrForm, api.ErrOver} {
		if kinds[why] < 10 {
			t.Error(why, kinds[why])
		}
	}
}

// P3.1: an Each that is left early tells no more; it can be gone through again.
func TestEachLeft(t *testing.T) {
	const s = "a 1 'x' :p <= \"Q\" !"
	all := slices.Collect(lex.Each(s))
	if len(all) != 6 {
		t.Fatal(all)
	}
	each := lex.Each(s)
	for most := 1; most <= len(all); most++ {
		var l []api.Token
		each(func(x api.Token) bool {
			l = append(l, x)
			return len(l) < most
		})
		if !slices.Equal(l, all[:most]) {
			t.Error(most, l)
		}
		n := 0
		for x := range lex.Each(s) {
			if x != all[n] {
				t.Error(n, x)
			}
			if n++; n == most {
				break
			}
		}
		if n != most {
			t.Error(n, most)
		}
	}
	for range lex.Each("") {
		break
	}
	n := 0
	lex.Each("a")(func(api.Token) bool { n++; return n < 2 })
	if n != 2 {
		t.Error("left at the End", n)
	}
}

// P3.1: what is panicked in what was handed in goes through, and the text can be gone through again.
func TestEachPanics(t *testing.T) {
	each := lex.Each("a b")
	func() {
		defer func() {
			if p := recover(); p != "stop" {
				t.Error(p)
			}
		}()
		each(func(api.Token) bool { panic("stop") })
	}()
	if l := slices.Collect(each); len(l) != 3 {
		t.Error(l)
	}
}

// P3.1: an answer is new memory.
func TestTokensAnew(t *testing.T) {
	a, _, _ := lex.Tokens("a b")
	b, _, _ := lex.Tokens("a b")
	a[0].Text = "x"
	_ = append(a[:1], word("y"))
	if b[0].Text != "a" || b[1].Text != "b" {
		t.Error(b)
	}
}

// P3.5: remarks and blanks between tokens change nothing but places.
func TestFillers(t *testing.T) {
	for i, s := range fineTexts(3000) {
		x := say(s)
		filler := fillers()[i%len(fillers())]
		other := filler
		for k, token := range x.tokens[:len(x.tokens)-1] {
			other += s[token.At:x.ends[k]]
			if strings.HasSuffix(other, "-") { // --- is a remark from its first - on
				other += " "
			}
			other += filler
		}
		l, at, why := lex.Tokens(other)
		if at != 0 || why != api.OK || !slices.Equal(unplaced(l), unplaced(x.tokens)) {
			t.Errorf("%.80q by %q: %s %d %v", s, filler, brief(l), at, why)
		}
	}
}

// P3.7: the tokens of a text are those of its parts.
func TestParts(t *testing.T) {
	for _, s := range slices.Concat(fineTexts(1000), someTexts(3000)) {
		x := say(s)
		if x.why != api.OK {
			continue
		}
		whole, _, _ := lex.Tokens(s)
		for k, cut := range x.ends[:len(x.ends)-1] {
			head, at, why := lex.Tokens(s[:cut])
			if at != 0 || why != api.OK || !slices.Equal(head[:len(head)-1], whole[:k+1]) || head[k+1].Kind != api.End || head[k+1].At != cut {
				t.Errorf("%.80q, cut at %d: %v %d %v", s, cut, head, at, why)
			}
			tail, at, why := lex.Tokens(s[cut:])
			if at != 0 || why != api.OK || !slices.Equal(unplaced(tail), unplaced(whole[k+1:])) {
				t.Errorf("%.80q, cut at %d: %v %d %v", s, cut, tail, at, why)
			}
			for i := range tail {
				if tail[i].At+cut != whole[k+1+i].At {
					t.Errorf("%.80q, cut at %d: %v", s, cut, tail[i])
				}
			}
		}
	}
}

// P3.7: where the next one goes on, the tokens are others.
func TestPartsThatGoOn(t *testing.T) {
	for _, x := range [][2]string{{"a", "b"}, {"a", "1"}, {"1", "2"}, {"1", ".5"}, {"1.5", "5"}, {"<", "="}, {"<", ">"}, {">", "="}, {"'a'", "'b'"}, {"\"a\"", "\"b\""}, {":a", "b"}, {"-", "- x"}, {"/", "* x */"}} {
		a, _, e := lex.Tokens(x[0])
		b, _, f := lex.Tokens(x[1])
		l, _, g := lex.Tokens(x[0] + x[1])
		if e != api.OK || f != api.OK || g != api.OK {
			t.Error(x, e, f, g)
		}
		if len(l) >= len(a)-1+len(b) {
			t.Error(x, l)
		}
	}
}
