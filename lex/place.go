package lex

import (
	"unicode/utf8"

	"lockstep/api"
)

// place is how many bytes stand ahead, and the line and the character of that line, both from 1.
type place struct{ at, line, col int }

func firstPlace() place { return place{line: 1, col: 1} }

// Where is the line and the character of a place.
func Where(s string, at int) (int, int, api.Errno) {
	if at < 0 || at > len(s) {
		return 0, 0, api.ErrArg
	}
	p := firstPlace().behind(s[:beginning(s, at)])
	return p.line, p.col, api.OK
}

// beginning is where the character begins that goes over a place, as it does not stand ahead of its own bytes; else the place itself.
func beginning(s string, at int) int {
	for from := max(0, at-utf8.UTFMax+1); from < at; from++ {
		if _, size := utf8.DecodeRuneInString(s[from:]); from+size > at {
			return from
		}
	}
	return at
}

// behind is the place behind what begins at p. (A byte that is no character is ranged over as one.)
func (p place) behind(passed string) place {
	for _, r := range passed {
		p.col++
		if r == '\n' {
			p.line++
			p.col = 1
		}
	}
	p.at += len(passed)
	return p
}

// put is a token that begins at p.
func (p place) put(t api.Token) api.Token {
	t.At, t.Line, t.Col = p.at, p.line, p.col
	return t
}
