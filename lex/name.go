package lex

import (
	"strings"
	"unicode/utf8"

	"lockstep/api"
)

// ownWords are SQL's own words, a blank on both sides of each. They belong to the grammar, but a name that is one of them is written in quotes.
const ownWords = " abort and as asc avg begin bigint boolean by case cast coalesce count create decimal delete desc distinct else end false from group having if in index insert into is join key length let like limit max min not null on or order partition primary procedure select set substr sum table then true unique update values varchar when where "

// Name tells whether a text can be a name.
func Name(s string) bool {
	return s != "" && len(s) <= api.MaxName && badCharacter(s) < 0
}

// Plain tells whether a name needs no quotes, but for SQL's own words.
func Plain(s string) bool {
	return Name(s) && wordSize(s) == len(s) && strings.ToLower(s) == s
}

// Quote is a name as it is written.
func Quote(s string) (string, api.Errno) {
	if !Name(s) {
		return "", api.ErrName
	}
	if Plain(s) && !strings.Contains(ownWords, " "+s+" ") {
		return s, api.OK
	}
	return inQuotes(s), api.OK
}

func inQuotes(name string) string {
	return `"` + strings.ReplaceAll(name, `"`, `""`) + `"`
}

// badCharacter is where the first byte stands at which no character begins, or a character 0: below 0, if there is none. (U+FFFD itself is a character.)
func badCharacter(s string) int {
	for i, r := range s {
		if r == 0 || r == utf8.RuneError && !strings.HasPrefix(s[i:], string(utf8.RuneError)) {
			return i
		}
	}
	return -1
}
