package lex_test

import (
	"math"
	"strings"
	"testing"
	"unicode/utf8"

	"lockstep/api"
	"lockstep/lex"
)

// P3.2: line feeds alone begin lines; characters count one each, bytes that are none likewise.
func TestWhere(t *testing.T) {
	for _, x := range []struct {
		s             string
		at, line, col int
	}{
		{"", 0, 1, 1}, {"a", 0, 1, 1}, {"a", 1, 1, 2}, {"\n", 0, 1, 1}, {"\n", 1, 2, 1}, {"\n\n", 2, 3, 1}, {"a\nb", 1, 1, 2}, {"a\nb", 2, 2, 1}, {"a\nb", 3, 2, 2}, {"\r\n", 1, 1, 2}, {"\r\n", 2, 2, 1}, {"\ra", 1, 1, 2}, {"\t\ta", 2, 1, 3}, {"\u2028a", 3, 1, 2},
		{"é\nab", 4, 2, 2}, {"éa", 2, 1, 2}, {"éa", 3, 1, 3}, {"\U0001f600a", 4, 1, 2}, {"e\u0301a", 3, 1, 3}, {"\ufffda", 3, 1, 2}, {"\xff\xfea", 2, 1, 3}, {"\xe2\x82a", 2, 1, 3}, {"\x00a", 1, 1, 2}, {"\xff\n\xffa", 3, 2, 2}, {"'\n\n'a", 4, 3, 2},
		{strings.Repeat("é\n", api.MaxSource), 3 * api.MaxSource, api.MaxSource + 1, 1}, {strings.Repeat("x", 2*api.MaxSource), 2 * api.MaxSource, 1, 2*api.MaxSource + 1},
	} {
		if line, col, why := lex.Where(x.s, x.at); line != x.line || col != x.col || why != api.OK {
			t.Errorf("Where(%.40q, %d): %d %d %v, not %d %d", x.s, x.at, line, col, why, x.line, x.col)
		}
	}
}

// P3.2: a character of two, three or four bytes does not stand ahead of its own bytes, wherever it stands: at the beginning, behind others, behind bytes that are no characters, on a later line, at the end or not.
func TestWhereWithin(t *testing.T) {
	heads := []struct {
		s         string
		line, col int
	}{
		{"", 1, 1}, {"a", 1, 2}, {"é", 1, 2}, {"€", 1, 2}, {"\U0001f600", 1, 2}, {"\xff", 1, 2}, {"\xe2\x82", 1, 3}, {"\xf0\x9f\x98", 1, 4}, {"\x80\x80\x80", 1, 4},
		{"\n", 2, 1}, {"a\né", 2, 2}, {"€\n\n\xffb", 3, 3}, {"\U0001f600\n\xf0\x9f", 2, 3},
	}
	for _, head := range heads {
		for _, r := range []string{"\u0080", "é", "\u07ff", "\u0800", "€", "\ufffd", "\uffff", "\U00010000", "\U0001f600", "\U0010ffff"} {
			for _, tail := range []string{"", "a", "\n", "\x80", "\xff", "é", r} {
				s := head.s + r + tail
				for within := range len(r) {
					if line, col, why := lex.Where(s, len(head.s)+within); line != head.line || col != head.col || why != api.OK {
						t.Errorf("Where(%q, %d): %d %d %v, not %d %d", s, len(head.s)+within, line, col, why, head.line, head.col)
					}
				}
				if line, col, why := lex.Where(s, len(head.s)+len(r)); line != head.line || col != head.col+1 || why != api.OK {
					t.Errorf("Where(%q, %d): %d %d %v, not %d %d", s, len(head.s)+len(r), line, col, why, head.line, head.col+1)
				}
			}
		}
	}
}

// P3.2: bytes that begin a character and do not end it are none, and count one each.
func TestWhereOfNoCharacters(t *testing.T) {
	for _, s := range []string{"\xc3", "\xe2\x82", "\xf0\x9f\x98", "\xc0\x80", "\xe0\x80\x80", "\xed\xa0\x80", "\xf4\x90\x80\x80", "\xf8\x88\x80\x80\x80", "\x80\x80\x80\x80\x80"} {
		for _, tail := range []string{"", "a", "\n", "é", "\xff"} {
			for at := range len(s) + 1 {
				if line, col, why := lex.Where(s+tail, at); line != 1 || col != at+1 || why != api.OK {
					t.Errorf("Where(%q, %d): %d %d %v", s+tail, at, line, col, why)
				}
			}
		}
	}
}

// whereOf goes through the text from its beginning, and counts what ends at a place or ahead of it.
func whereOf(s string, at int) (int, int) {
	line, col := 1, 1
	for end := 0; end < at; {
		r, size := utf8.DecodeRuneInString(s[end:])
		end += size
		switch {
		case end > at:
		case r == '\n':
			line, col = line+1, 1
		default:
			col++
		}
	}
	return line, col
}

// P3.2: all places of many texts, whether or not they can be.
func TestWhereOfSome(t *testing.T) {
	for _, s := range someTexts(2000) {
		if len(s) > 200 {
			s = s[:200]
		}
		for at := range len(s) + 1 {
			wantLine, wantCol := whereOf(s, at)
			if line, col, why := lex.Where(s, at); line != wantLine || col != wantCol || why != api.OK {
				t.Errorf("Where(%q, %d): %d %d %v, not %d %d", s, at, line, col, why, wantLine, wantCol)
			}
		}
	}
}

// P3.2: all places of all texts of up to five of these bytes, among them ones that begin characters and go on with them.
func TestWhereOfShort(t *testing.T) {
	bytes := []byte{'a', '\n', 0x80, 0xbf, 0xc3, 0xe2, 0xed, 0xf0, 0xff}
	for n, many := 0, 1; n <= 5; n, many = n+1, many*len(bytes) {
		for k := range many {
			b := make([]byte, n)
			for i := range b {
				b[i] = bytes[k%len(bytes)]
				k /= len(bytes)
			}
			s := string(b)
			for at := range n + 1 {
				wantLine, wantCol := whereOf(s, at)
				if line, col, why := lex.Where(s, at); line != wantLine || col != wantCol || why != api.OK {
					t.Errorf("Where(%q, %d): %d %d %v, not %d %d", s, at, line, col, why, wantLine, wantCol)
				}
			}
		}
	}
}

// P3.2: places that are none.
func TestWhereRefuses(t *testing.T) {
	for _, s := range []string{"", "a", "é", "a\nb", "\xff", strings.Repeat("x", api.MaxSource+1)} {
		for _, at := range []int{-1, len(s) + 1, math.MinInt, math.MaxInt} {
			if line, col, why := lex.Where(s, at); line != 0 || col != 0 || why != api.ErrArg {
				t.Errorf("Where(%.40q, %d): %d %d %v", s, at, line, col, why)
			}
		}
	}
}

// P3.6: Where of a token's At is its Line and Col; tokens stand one behind the other, each behind the end of the one ahead.
func TestPlaces(t *testing.T) {
	for _, s := range append(fineTexts(3000), someTexts(3000)...) {
		x := say(s)
		ahead, k := 0, 0
		for token := range lex.Each(s) {
			line, col, why := lex.Where(s, token.At)
			if line != token.Line || col != token.Col || why != api.OK {
				t.Errorf("%.80q: %v, but %d %d", s, token, line, col)
			}
			if token.At < ahead {
				t.Errorf("%.80q: %v at %d, ahead of %d", s, token, token.At, ahead)
			}
			ahead = x.ends[k]
			k++
		}
	}
}
