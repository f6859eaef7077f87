package parse_test

import (
	"strings"
	"testing"

	"lockstep/lex"
	"lockstep/parse"
)

// sqlWords are those of 9.1, with a blank on both sides of each.
const sqlWords = " abort and as asc avg begin bigint boolean by case cast coalesce count create decimal delete desc distinct else end false from group having if in index insert into is join key length let like limit max min not null on or order partition primary procedure select set substr sum table then true unique update values varchar when where "

// P9.3: each of the words, in small letters; nothing else.
func TestWords(t *testing.T) {
	words := strings.Fields(sqlWords)
	if len(words) != 59 {
		t.Error(len(words))
	}
	for _, s := range words {
		if !parse.Word(s) {
			t.Errorf("Word(%q): false", s)
		}
		for _, s := range []string{strings.ToUpper(s), strings.ToUpper(s[:1]) + s[1:], s + " ", " " + s, s + "_", "_" + s, s + "1", s + s, `"` + s + `"`, ":" + s, s + "\x00", s + "\n", s[:1]} {
			if parse.Word(s) {
				t.Errorf("Word(%q): true", s)
			}
		}
		if written, _ := lex.Quote(s); written != `"`+s+`"` {
			t.Errorf("Quote(%q): %s", s, written)
		}
	}
	for _, s := range []string{"", " ", "a", "t", "primary key", "null ", "isnull", "int", "text", "float", "date", "add", "all", "any", "exists", "union", "outer", "left", "inner", "drop", "é", "\xff", "=", "(", "select from", strings.Repeat("select", 7)} {
		if parse.Word(s) {
			t.Errorf("Word(%q): true", s)
		}
	}
}
