package lex_test

import (
	"math"
	"strings"
	"testing"
	"unicode/utf8"

	"lockstep/api"
	"lockstep/lex"
)

// P3.2: line feeds alone begin lines; characters count one each, bytes that are none likewise.
func TestWhere(t *testing.T) {
	for _, x := range []struct {
		s             string
		at, line, col int
	}{
		{"", 0, 1, 1}, {"a", 0, 1, 1}, {"a", 1, 1, 2}, {"\n", 0, 1, 1}, {"\n", 1, 2, 1}, {"\n\n", 2, 3, 1}, {"a\nb", 1, 1, 2}, {"a\nb", 2, 2, 1}, {"a\nb", 3, 2, 2}, {"\r\n", 1, 1, 2}, {"\r\n", 2, 2, 1}, {"\ra", 1, 1, 2}, {"\t\ta", 2, 1, 3}, {"\u2028a", 3, 1, 2},
		{"é\nab", 4, 2, 2}, {"éa", 2, 1, 2}, {"éa", 3, 1, 3}, {"\U0001f600a", 4, 1, 2}, {"e\u0301a", 3, 1, 3}, {"\ufffda", 3, 1, 2}, {"\xff\xfea", 2, 1, 3}, {"\xe2\x82a", 2, 1, 3}, {"\x00a", 1, 1, 2}, {"\xff\n\xffa", 3, 2, 2}, {"'\n\n'a", 4, 3, 2},
		{"éa", 1, 1, 2}, {"€a", 1, 1, 2}, {"€a", 2, 1, 3}, {"€a", 3, 1, 2}, {"\n€", 2, 2, 2},
		{strings.Repeat("é\n", api.MaxSource), 3 * api.MaxSource, api.MaxSource + 1, 1}, {strings.Repeat("x", 2*api.MaxSource), 2 * api.MaxSource, 1, 2*api.MaxSource + 1},
	} {
		if line, col, why := lex.Where(x.s, x.at); line != x.line || col != x.col || why != api.OK {
			t.Errorf("Where(%.40q, %d): %d %d %v, not %d %d", x.s, x.at, line, col, why, x.line, x.col)
		}
	}
}

// P3.2: all places of many texts, whether or not they can be.
func TestWhereOfSome(t *testing.T) {
	for _, s := range someTexts(2000) {
		if len(s) > 200 {
			s = s[:200]
		}
		for at := range len(s) + 1 {
			lines := strings.Split(s[:at], "\n")
			want := utf8.RuneCountInString(lines[len(lines)-1]) + 1
			if line, col, why := lex.Where(s, at); line != len(lines) || col != want || why != api.OK {
				t.Errorf("Where(%q, %d): %d %d %v", s, at, line, col, why)
			}
		}
	}
}

// P3.2: places that are none.
func TestWhereRefuses(t *testing.T) {
	for _, s := range []string{"", "a", "é", "a\nb", "\xff", strings.Repeat("x", api.MaxSource+1)} {
		for _, at := range []int{-1, len(s) + 1, math.MinInt, math.MaxInt} {
			if line, col, why := lex.Where(s, at); line != 0 || col != 0 || why != api.ErrArg {
				t.Errorf("Where(%.40q, %d): %d %d %v", s, at, line, col, why)
			}
		}
	}
}

// P3.6: Where of a token's At is its Line and Col; tokens stand one behind the other, each behind the end of the one ahead.
func TestPlaces(t *testing.T) {
	for _, s := range append(fineTexts(3000), someTexts(3000)...) {
		x := say(s)
		ahead, k := 0, 0
		for token := range lex.Each(s) {
			line, col, why := lex.Where(s, token.At)
			if line != token.Line || col != token.Col || why != api.OK {
				t.Errorf("%.80q: %v, but %d %d", s, token, line, col)
			}
			if token.At < ahead {
				t.Errorf("%.80q: %v at %d, ahead of %d", s, token, token.At, ahead)
			}
			ahead = x.ends[k]
			k++
		}
	}
}
