package lex_test

import (
	"slices"
	"strings"
	"testing"
	"unicode/utf8"

	"lockstep/api"
	"lockstep/lex"
)

// sqlWords are those of 9.1.
func sqlWords() []string {
	return strings.Fields("abort and as asc avg begin bigint boolean by case cast coalesce count create decimal delete desc distinct else end false from group having if in index insert into is join key length let like limit max min not null on or order partition primary procedure select set substr sum table then true unique update values varchar when where")
}

// P3.3: names, plain ones, and how they are written.
func TestNames(t *testing.T) {
	for _, x := range []struct {
		s           string
		name, plain bool
		written     string
	}{
		{"a", true, true, "a"}, {"_", true, true, "_"}, {"_1", true, true, "_1"}, {"az_09", true, true, "az_09"}, {"z9", true, true, "z9"}, {strings.Repeat("x", 32), true, true, strings.Repeat("x", 32)}, {"primary1", true, true, "primary1"}, {"word", true, true, "word"}, {"column", true, true, "column"},
		{"A", true, false, "\"A\""}, {"aB", true, false, "\"aB\""}, {"1", true, false, "\"1\""}, {"1a", true, false, "\"1a\""}, {"é", true, false, "\"é\""}, {"aé", true, false, "\"aé\""}, {"\u212a", true, false, "\"\u212a\""}, {"\u0663", true, false, "\"\u0663\""}, {"a\u0663", true, false, "\"a\u0663\""}, {" ", true, false, "\" \""}, {"a b", true, false, "\"a b\""}, {" a", true, false, "\" a\""}, {"a ", true, false, "\"a \""}, {"\n", true, false, "\"\n\""}, {"a\n", true, false, "\"a\n\""}, {"a.b", true, false, "\"a.b\""}, {"a-b", true, false, "\"a-b\""}, {"'", true, false, "\"'\""}, {"\\", true, false, "\"\\\""}, {"\ufffd", true, false, "\"\ufffd\""}, {"\x01", true, false, "\"\x01\""},
		{"\"", true, false, "\"\"\"\""}, {"a\"b", true, false, "\"a\"\"b\""}, {"\"\"", true, false, "\"\"\"\"\"\""}, {strings.Repeat("\"", 32), true, false, strings.Repeat("\"", 66)}, {strings.Repeat("é", 16), true, false, "\"" + strings.Repeat("é", 16) + "\""}, {strings.Repeat("X", 32), true, false, "\"" + strings.Repeat("X", 32) + "\""},
		{"select", true, true, "\"select\""}, {"SELECT", true, false, "\"SELECT\""}, {"and as", true, false, "\"and as\""}, {" as ", true, false, "\" as \""}, {"selec", true, true, "selec"}, {"selects", true, true, "selects"}, {"n", true, true, "n"}, {"re", true, true, "re"}, {"_as", true, true, "_as"},
		{"", false, false, ""}, {strings.Repeat("x", 33), false, false, ""}, {strings.Repeat("é", 16) + "x", false, false, ""}, {strings.Repeat("\"", 33), false, false, ""}, {strings.Repeat("x", 100000), false, false, ""},
	} {
		checkName(t, x.s, x.name, x.plain, x.written)
	}
	for _, bad := range badTexts() {
		for _, s := range []string{bad, "a" + bad, bad + "a", "é" + bad + "é"} {
			checkName(t, s, false, false, "")
		}
	}
}

func checkName(t *testing.T, s string, name, plain bool, written string) {
	t.Helper()
	if lex.Name(s) != name {
		t.Errorf("Name(%.40q): %t", s, !name)
	}
	if lex.Plain(s) != plain {
		t.Errorf("Plain(%.40q): %t", s, !plain)
	}
	want := api.OK
	if !name {
		want = api.ErrName
	}
	if q, why := lex.Quote(s); q != written || why != want {
		t.Errorf("Quote(%.40q): %q %v, not %q %v", s, q, why, written, want)
	}
}

// P3.3: SQL's own words are plain, but written in quotes; what is a letter longer, shorter or greater is none of them.
func TestSQLWords(t *testing.T) {
	words := sqlWords()
	if len(words) != 59 {
		t.Fatal(len(words))
	}
	for _, w := range words {
		checkName(t, w, true, true, "\""+w+"\"")
		checkName(t, strings.ToUpper(w), true, false, "\""+strings.ToUpper(w)+"\"")
		for _, near := range []string{w + "s", w + "_", "x" + w, w[1:], w[:len(w)-1]} {
			if !slices.Contains(words, near) {
				checkName(t, near, true, true, near)
			}
		}
	}
}

// P3.3: all texts of one character, and of one behind another.
func TestNamesOfOneCharacter(t *testing.T) {
	for r := rune(1); r < 0x3000; r++ {
		s := string(r)
		small, digit := r == '_' || 'a' <= r && r <= 'z', '0' <= r && r <= '9'
		if !lex.Name(s) || lex.Plain(s) != small {
			t.Errorf("%q: %t %t", s, lex.Name(s), lex.Plain(s))
		}
		if s = "a" + s; !lex.Name(s) || lex.Plain(s) != (small || digit) {
			t.Errorf("%q: %t %t", s, lex.Name(s), lex.Plain(s))
		}
	}
	for b := range 256 {
		s := string([]byte{'a', byte(b)})
		if want := b > 0 && utf8.ValidString(s); lex.Name(s) != want {
			t.Errorf("%q: %t", s, !want)
		}
	}
}

// P3.3: what Quote writes is one token that says the name; a plain one is what a word says.
func TestQuotedNamesAreRead(t *testing.T) {
	for _, s := range append(shreds(), sqlWords()...) {
		q, why := lex.Quote(s)
		if lex.Name(s) != (why == api.OK) {
			t.Errorf("%.40q: %v", s, why)
		}
		if lex.Plain(s) {
			if l, _, _ := lex.Tokens(s); len(l) != 2 || unplaced(l)[0] != word(s) {
				t.Errorf("%q is plain: %v", s, l)
			}
		}
		if why != api.OK {
			continue
		}
		want := quoted(s)
		if q == s {
			want = word(s)
		}
		if l, _, why := lex.Tokens(q); why != api.OK || !slices.Equal(unplaced(l), []api.Token{want, end()}) {
			t.Errorf("%q as %q: %v %v", s, q, l, why)
		}
	}
}
