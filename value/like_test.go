package value_test

import (
	"strings"
	"testing"

	"lockstep/api"
	"lockstep/value"
)

// P1.9: characters, not bytes.
func TestLike(t *testing.T) {
	for _, x := range []struct {
		s, pattern string
		want       bool
	}{
		{"", "", true}, {"", "%", true}, {"", "%%", true}, {"", "_", false}, {"a", "", false}, {"abc", "abc", true}, {"abc", "ABC", false}, {"abc", "ab", false}, {"ab", "abc", false},
		{"Größe", "Gr__e", true}, {"Größe", "Gr___e", false}, {"é", "_", true}, {"é", "__", false}, {"e\u0301", "__", true}, {"\U0001f600", "_", true}, {"\ufffd", "_", true}, {"\x00", "_", true}, {"a\nb", "a_b", true},
		{"abcbc", "a%bc", true}, {"abcbcd", "a%bc", false}, {"abc", "%b%", true}, {"aab", "%ab", true}, {"mississippi", "m%iss%ip%", true}, {"mississippi", "m%iss%iss%iss%", false}, {"ab", "%_%_%", true}, {"a", "%_%_%", false}, {"xay", "_a_", true},
		{"a%b", "a\\%_", true}, {"axb", "a\\%_", false}, {"a_b", "a\\_b", true}, {"axb", "a\\_b", false}, {"\\", "\\\\", true}, {"\\\\", "\\\\", false}, {"a", "\\a", true}, {"ö", "\\ö", true}, {"100%", "%\\%", true}, {"%", "\\\\%", false}, {"\\x", "\\\\%", true},
		{strings.Repeat("a", api.MaxText), strings.Repeat("a", api.MaxText), true}, {strings.Repeat("a", api.MaxText), strings.Repeat("_", api.MaxText), true}, {strings.Repeat("a", api.MaxText-1), strings.Repeat("_", api.MaxText), false}, {strings.Repeat("a", api.MaxText), strings.Repeat("%", api.MaxText), true},
		{strings.Repeat("a", api.MaxText), strings.Repeat("%a", api.MaxText/2-1) + "%b", false}, {strings.Repeat("a", api.MaxText), "%" + strings.Repeat("a", api.MaxText/2) + "b", false},
	} {
		if is, e := value.Like(x.s, x.pattern); is != x.want || e != api.OK {
			t.Errorf("Like(%.40q, %.40q): %t %v", x.s, x.pattern, is, e)
		}
	}
}

// P1.9: what s can't be is told ahead of what pattern can't be; a \ at the end, whatever s is.
func TestLikeRefuses(t *testing.T) {
	long, broken := strings.Repeat("x", api.MaxText+1), "a\xff"
	for _, x := range []struct {
		s, pattern string
		why        api.Errno
	}{
		{long, "%", api.ErrLong}, {long, broken, api.ErrLong}, {broken, "%", api.ErrForm}, {broken, long, api.ErrForm}, {"a", long, api.ErrLong}, {"a", broken, api.ErrForm}, {strings.Repeat("\xff", api.MaxText+1), "%", api.ErrLong}, {"a", strings.Repeat("\xff", api.MaxText+1), api.ErrLong},
		{"a", "\\", api.ErrForm}, {"", "\\", api.ErrForm}, {"b", "a\\", api.ErrForm}, {"a", "%\\", api.ErrForm}, {"a", "\\\\\\", api.ErrForm}, {long, "\\", api.ErrLong},
	} {
		if is, e := value.Like(x.s, x.pattern); is || e != x.why {
			t.Errorf("Like(%.40q, %.40q): %t %v, not %v", x.s, x.pattern, is, e, x.why)
		}
	}
}

// liked tries everything: slow, but plain.
func liked(s, p []rune) bool {
	switch {
	case len(p) == 0:
		return len(s) == 0
	case p[0] == '%':
		return liked(s, p[1:]) || len(s) > 0 && liked(s[1:], p)
	case p[0] == '\\':
		return len(s) > 0 && s[0] == p[1] && liked(s[1:], p[2:])
	}
	return len(s) > 0 && (p[0] == '_' || p[0] == s[0]) && liked(s[1:], p[1:])
}

// words are all texts of at most so many of these characters.
func words(of string, most int) []string {
	all := []string{""}
	for from := 0; most > 0; most-- {
		to := len(all)
		for ; from < to; from++ {
			for _, r := range of {
				all = append(all, all[from]+string(r))
			}
		}
	}
	return all
}

// opens tells whether the last \ of a pattern stands for nothing.
func opens(pattern string) bool {
	n := len(pattern) - len(strings.TrimRight(pattern, "\\"))
	return n%2 == 1
}

// P1.9: all short texts against all short patterns.
func TestLikeOfAllShort(t *testing.T) {
	texts := words("aé%\\", 4)
	for _, p := range words("aé%_\\", 4) {
		for _, s := range texts {
			is, e := value.Like(s, p)
			if opens(p) {
				if is || e != api.ErrForm {
					t.Errorf("Like(%q, %q): %t %v", s, p, is, e)
				}
			} else if is != liked([]rune(s), []rune(p)) || e != api.OK {
				t.Errorf("Like(%q, %q): %t %v", s, p, is, e)
			}
		}
	}
}
