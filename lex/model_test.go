package lex_test

import (
	"fmt"
	"math/big"
	"math/rand"
	"regexp"
	"slices"
	"strings"
	"unicode/utf8"

	"lockstep/api"
)

func num(n int64) api.Value { return api.Value{Type: api.BigInt, Int: n} }

func dec(n int64) api.Value { return api.Value{Type: api.Dec, Int: n} }

func text(s string) api.Value { return api.Value{Type: api.Text, Text: s} }

func word(s string) api.Token { return api.Token{Kind: api.Word, Text: s} }

func quoted(s string) api.Token { return api.Token{Kind: api.Quoted, Text: s} }

func literal(v api.Value) api.Token { return api.Token{Kind: api.Literal, Value: v} }

func param(s string) api.Token { return api.Token{Kind: api.Param, Text: s} }

func sign(s string) api.Token { return api.Token{Kind: api.Sign, Text: s} }

func end() api.Token { return api.Token{Kind: api.End} }

// unplaced are tokens without their places.
func unplaced(l []api.Token) []api.Token {
	l = slices.Clone(l)
	for i := range l {
		l[i].At, l[i].Line, l[i].Col = 0, 0, 0
	}
	return l
}

// brief is the beginning of what tokens are, for a report.
func brief(l []api.Token) string {
	s := fmt.Sprint(l)
	return s[:min(len(s), 400)]
}

// fault is something that is wrong with a text.
type fault struct {
	at  int
	why api.Errno
}

// said is what a text ought to come to: the tokens that stand ahead of what is wrong first, where each ends, and what is wrong (OK: nothing).
type said struct {
	tokens []api.Token
	ends   []int
	fault
}

var (
	sayNothing = regexp.MustCompile(`^(?:[ \t\n\r]|--[^\n]*|/\*(?s:.*?)\*/)`)
	sayWord    = regexp.MustCompile(`^[A-Za-z_][A-Za-z_0-9]*`)
	sayQuoted  = regexp.MustCompile(`^(?:"[^"]*")+`)
	sayText    = regexp.MustCompile(`^(?:'[^']*')+`)
	sayNumber  = regexp.MustCompile(`^[0-9]+(?:\.[0-9]+)?`)
	sayParam   = regexp.MustCompile(`^:[A-Za-z_][A-Za-z_0-9]*`)
	saySign    = regexp.MustCompile(`^(?:<=|>=|<>|\|\||[(),;.*+/=<>-])`)
)

// say collects all that is wrong, wherever it stands, and takes of it what stands farthest left, of two in one place the one that the chapter names first.
func say(s string) said {
	faults := badBytes(s)
	var tokens []api.Token
	var ends []int
	at := 0
	for at < len(s) {
		if n := len(sayNothing.FindString(s[at:])); n > 0 {
			at += n
			continue
		}
		t, size, why := sayToken(s[at:])
		if why != api.OK {
			faults = append(faults, fault{at, why})
		}
		if size == 0 {
			break
		}
		tokens, ends = append(tokens, placed(s, at, t)), append(ends, at+size)
		at += size
	}
	tokens, ends = append(tokens, placed(s, len(s), end())), append(ends, len(s)+1)
	if len(faults) == 0 {
		return said{tokens: tokens, ends: ends}
	}
	first := slices.MinFunc(faults, func(a, b fault) int {
		if a.at != b.at {
			return a.at - b.at
		}
		return rank(a.why) - rank(b.why)
	})
	n := 0
	for n < len(ends) && ends[n] <= first.at {
		n++
	}
	return said{tokens[:n], ends[:n], first}
}

func rank(why api.Errno) int {
	return slices.Index([]api.Errno{api.ErrRune, api.ErrOpen, api.ErrName, api.ErrLong, api.ErrForm, api.ErrOver}, why)
}

func badBytes(s string) []fault {
	var l []fault
	for at := 0; at < len(s); {
		r, size := utf8.DecodeRuneInString(s[at:])
		if r == 0 || r == utf8.RuneError && size == 1 {
			l = append(l, fault{at, api.ErrRune})
		}
		at += size
	}
	return l
}

func placed(s string, at int, t api.Token) api.Token {
	lines := strings.Split(s[:at], "\n")
	t.At, t.Line, t.Col = at, len(lines), utf8.RuneCountInString(lines[len(lines)-1])+1
	return t
}

// sayToken is the token with which s begins, its size (0: nothing can be read behind it), and what is wrong with it as a whole.
func sayToken(s string) (api.Token, int, api.Errno) {
	if m := sayWord.FindString(s); m != "" {
		return word(strings.ToLower(m)), len(m), unless(len(m) <= 32, api.ErrName)
	}
	if m := sayParam.FindString(s); m != "" {
		return param(strings.ToLower(m[1:])), len(m), unless(len(m) <= 33, api.ErrName)
	}
	if m := sayNumber.FindString(s); m != "" {
		return sayValue(m)
	}
	switch {
	case s[0] == ':':
		return api.Token{}, 0, api.ErrName
	case s[0] == '"':
		name, size := sayQuote(s, sayQuoted.FindString(s))
		if size == 0 {
			return api.Token{}, 0, api.ErrOpen
		}
		return quoted(name), size, unless(1 <= len(name) && len(name) <= 32, api.ErrName)
	case s[0] == '\'':
		inner, size := sayQuote(s, sayText.FindString(s))
		if size == 0 {
			return api.Token{}, 0, api.ErrOpen
		}
		return literal(text(inner)), size, unless(len(inner) <= 4096, api.ErrLong)
	case strings.HasPrefix(s, "/*"):
		return api.Token{}, 0, api.ErrOpen
	}
	m := saySign.FindString(s)
	return sign(m), len(m), unless(m != "", api.ErrRune)
}

func unless(fine bool, why api.Errno) api.Errno {
	if fine {
		return api.OK
	}
	return why
}

// sayQuote is what stands between quotes, of which the last one closes, if no other one stands behind it.
func sayQuote(s, closed string) (string, int) {
	size := len(closed)
	if size == 0 || size < len(s) && s[size] == s[0] {
		return "", 0
	}
	parts := strings.Split(closed[1:size-1], s[:1]+s[:1])
	return strings.Join(parts, s[:1]), size
}

func sayValue(m string) (api.Token, int, api.Errno) {
	whole, fraction, pointed := strings.Cut(m, ".")
	if len(fraction) > 4 {
		return api.Token{}, len(m), api.ErrForm
	}
	typ := api.BigInt
	if pointed {
		typ = api.Dec
		whole += (fraction + "0000")[:4]
	}
	n, _ := new(big.Int).SetString(whole, 10)
	if !n.IsInt64() {
		return api.Token{}, len(m), api.ErrOver
	}
	return literal(api.Value{Type: typ, Int: n.Int64()}), len(m), api.OK
}

// badTexts have at their first byte no character, or the character 0.
func badTexts() []string {
	return []string{"\x00", "\xff", "\x80", "\xc3", "\xc0\x80", "\xe2\x82", "\xed\xa0\x80", "\xf4\x90\x80\x80", "\xf0\x9f\x98"}
}

// shreds are what texts are put together of: what can be by itself, what can't, and what can only beside other ones.
func shreds() []string {
	l := []string{
		"a", "Z", "_", "_9", "select", "SELECT", "x1", "0", "7", "007", "10", "1.5", "1.50", "00.0001", "1.2345", "1.23456", "1.", ".", ".5", "9223372036854775807", "9223372036854775808", "922337203685477.5807", "922337203685477.5808",
		"'", "''", "'a'", "'it''s'", "'é\n'", "\"", "\"\"", "\"a\"", "\"T é\"", "\"a\"\"b\"", ":", ":p", ":P1", ":_", "(", ")", ",", ";", "*", "+", "-", "/", "=", "<", ">", "<=", ">=", "<>", "|", "||",
		" ", "  ", "\t", "\n", "\r", "\r\n", "--", "-- x\n", "--é'\n", "/*", "*/", "/* x */", "/**/", "/*/", "/* é\n ' */", "é", "\u00a0", "\u2028", "\ufffd", "\U0001f600", "!", "#", "$", "%", "&", "?", "@", "[", "\\", "^", "`", "{", "~", "\f", "\v", "\x7f",
		strings.Repeat("x", 31), strings.Repeat("Y", 32), strings.Repeat("z", 33), "\"" + strings.Repeat("é", 16) + "\"", "\"" + strings.Repeat("\"\"", 32) + "\"", "\"" + strings.Repeat("\"\"", 33) + "\"", ":" + strings.Repeat("p", 32), ":" + strings.Repeat("p", 33),
		"'" + strings.Repeat("t", 4096) + "'", "'" + strings.Repeat("''", 4096) + "'", "'" + strings.Repeat("t", 4097) + "'",
	}
	return append(l, badTexts()...)
}

// someTexts are texts of shreds, with and without blanks between them: those of few shreds mostly can be, those of many mostly can't.
func someTexts(n int) []string {
	r := rand.New(rand.NewSource(3))
	all := shreds()
	l := make([]string, n)
	for i := range l {
		between := []string{"", " ", "\n"}[r.Intn(3)]
		for range r.Intn(8) {
			l[i] += all[r.Intn(len(all))] + between
		}
	}
	return l
}

// fineShreds are shreds that can be by themselves, each one token.
func fineShreds() []string {
	var l []string
	for _, s := range shreds() {
		if x := say(s); x.why == api.OK && len(x.tokens) == 2 && x.tokens[0].At == 0 && x.ends[0] == len(s) {
			l = append(l, s)
		}
	}
	return l
}

// fillers are nothing, of each kind; each of them keeps tokens apart.
func fillers() []string {
	return []string{" ", "\t", "\n", "\r", "\r\n", " \n ", "--\n", "-- it's \" /*\n", "--é\n", "/**/", "/***/", "/* -- */", "/* é\n'\" */", "/*/*/", "/* :p 1.23456 ! */ "}
}

// fineTexts are texts that can be: tokens with fillers ahead of each and behind the last one.
func fineTexts(n int) []string {
	r := rand.New(rand.NewSource(4))
	tokens, between := fineShreds(), fillers()
	l := make([]string, n)
	for i := range l {
		for range r.Intn(12) {
			l[i] += between[r.Intn(len(between))] + tokens[r.Intn(len(tokens))]
		}
		l[i] += between[r.Intn(len(between))]
	}
	return l
}
