package value

import "lockstep/api"

// The kinds of a pattern's marks.
const (
	itself = iota // the character that stands there
	one           // one character, whichever
	many          // any characters, or none
)

// mark is a piece of a pattern: what it stands for, and, of itself, for which character.
type mark struct {
	kind int
	char rune
}

// Like tells whether a text is as a pattern says.
func Like(s, pattern string) (bool, api.Errno) {
	if why := checkText(s); why != api.OK {
		return false, why
	}
	if why := checkText(pattern); why != api.OK {
		return false, why
	}
	marks, ok := readPattern(pattern)
	if !ok {
		return false, api.ErrForm
	}
	return fits([]rune(s), marks), api.OK
}

// readPattern is a pattern's marks, and whether its last \ has a character behind it.
func readPattern(pattern string) ([]mark, bool) {
	var marks []mark
	escaped := false
	for _, r := range pattern {
		switch {
		case escaped:
			marks = append(marks, mark{itself, r})
			escaped = false
		case r == '\\':
			escaped = true
		case r == '%':
			marks = append(marks, mark{kind: many})
		case r == '_':
			marks = append(marks, mark{kind: one})
		default:
			marks = append(marks, mark{itself, r})
		}
	}
	return marks, !escaped
}

// fits gives the last % that it came by one character more whenever what stands behind it does not fit. (The ones ahead need no more: what they could take, the last one can.)
func fits(text []rune, marks []mark) bool {
	at, next := 0, 0
	last, from := -1, 0
	for at < len(text) {
		switch {
		case next < len(marks) && marks[next].kind == many:
			last, from = next, at
			next++
		case next < len(marks) && marks[next].takes(text[at]):
			at++
			next++
		case last >= 0:
			from++
			at, next = from, last+1
		default:
			return false
		}
	}
	for next < len(marks) && marks[next].kind == many {
		next++
	}
	return next == len(marks)
}

// takes tells whether a mark for one character stands for r.
func (m mark) takes(r rune) bool {
	return m.kind == one || m.char == r
}
