package lex

import (
	"strings"

	"lockstep/api"
	"lockstep/value"
)

// nothing is the Kind of the token of blanks and remarks, of which none is told.
const nothing = 0

// maxFraction is how many digits stand behind a point at most.
const maxFraction = 4

// signs has those of two characters first, as the longest one counts.
var signs = [...]string{"<=", ">=", "<>", "||", "(", ")", ",", ";", ".", "*", "+", "-", "/", "=", "<", ">"}

// piece is what a text begins with: how many bytes it has, and its token, which has no place yet. If it is wrong: why, and how many bytes stand ahead of what is.
type piece struct {
	size  int
	token api.Token
	why   api.Errno
	ahead int
}

// readPiece reads a remark ahead of the sign with which it begins.
func readPiece(s string) piece {
	switch {
	case s == "":
		return piece{token: api.Token{Kind: api.End}}
	case strings.IndexByte(" \t\n\r", s[0]) >= 0:
		return piece{size: 1}
	case strings.HasPrefix(s, "--"):
		return readLine(s)
	case strings.HasPrefix(s, "/*"):
		return readRemark(s)
	case isLetter(s[0]):
		return readWord(s)
	case isDigit(s[0]):
		return readNumber(s)
	case s[0] == '"':
		return readQuoted(s)
	case s[0] == '\'':
		return readText(s)
	case s[0] == ':':
		return readParam(s)
	}
	return readSign(s)
}

func readLine(s string) piece {
	line, _, _ := strings.Cut(s, "\n")
	return readAny(line, api.Token{Kind: nothing})
}

// readRemark looks for the end behind the two characters that open: /*/ is not closed.
func readRemark(s string) piece {
	end := strings.Index(s[2:], "*/")
	if end < 0 {
		return piece{why: api.ErrOpen}
	}
	return readAny(s[:2+end+2], api.Token{Kind: nothing})
}

func readWord(s string) piece {
	size := wordSize(s)
	if size > api.MaxName {
		return piece{why: api.ErrName}
	}
	return piece{size: size, token: api.Token{Kind: api.Word, Text: strings.ToLower(s[:size])}}
}

func readParam(s string) piece {
	size := wordSize(s[1:])
	if size == 0 || size > api.MaxName {
		return piece{why: api.ErrName}
	}
	return piece{size: 1 + size, token: api.Token{Kind: api.Param, Text: strings.ToLower(s[1 : 1+size])}}
}

// readQuoted and readText tell what is wrong with the whole ahead of a byte in it that is no character, as the whole begins farther left.
func readQuoted(s string) piece {
	size := quoteSize(s)
	if size == 0 {
		return piece{why: api.ErrOpen}
	}
	name := strings.ReplaceAll(s[1:size-1], `""`, `"`)
	if name == "" || len(name) > api.MaxName {
		return piece{why: api.ErrName}
	}
	return readAny(s[:size], api.Token{Kind: api.Quoted, Text: name})
}

func readText(s string) piece {
	size := quoteSize(s)
	if size == 0 {
		return piece{why: api.ErrOpen}
	}
	text := strings.ReplaceAll(s[1:size-1], "''", "'")
	if len(text) > api.MaxText {
		return piece{why: api.ErrLong}
	}
	return readAny(s[:size], api.Token{Kind: api.Literal, Value: api.Value{Type: api.Text, Text: text}})
}

func readNumber(s string) piece {
	whole := digitsSize(s)
	fraction := fractionSize(s[whole:])
	if fraction > maxFraction {
		return piece{why: api.ErrForm}
	}
	size := whole
	if fraction > 0 {
		size += 1 + fraction
	}
	v, why := value.Parse(withoutNoughts(s[:whole]) + s[whole:size])
	if why != api.OK {
		// Of digits of this form Parse refuses just those that are too great (as ErrLong, if they are very many).
		return piece{why: api.ErrOver}
	}
	return piece{size: size, token: api.Token{Kind: api.Literal, Value: v}}
}

func readSign(s string) piece {
	size := signSize(s)
	if size == 0 {
		return piece{why: api.ErrRune}
	}
	return piece{size: size, token: api.Token{Kind: api.Sign, Text: s[:size]}}
}

// readAny is the piece that s is, in which all characters may stand but 0.
func readAny(s string, t api.Token) piece {
	if at := badCharacter(s); at >= 0 {
		return piece{why: api.ErrRune, ahead: at}
	}
	return piece{size: len(s), token: t}
}

// quoteSize is how many bytes the quote has with which s begins, 0 if it is not closed.
func quoteSize(s string) int {
	quote := s[0]
	for i := 1; i < len(s); i++ {
		if s[i] != quote {
			continue
		}
		if i+1 == len(s) || s[i+1] != quote {
			return i + 1
		}
		i++
	}
	return 0
}

// signSize is how many bytes the sign has with which s begins, 0 if there is none.
func signSize(s string) int {
	for _, sign := range signs {
		if strings.HasPrefix(s, sign) {
			return len(sign)
		}
	}
	return 0
}

func wordSize(s string) int {
	size := 0
	for size < len(s) && (isLetter(s[size]) || size > 0 && isDigit(s[size])) {
		size++
	}
	return size
}

func digitsSize(s string) int {
	size := 0
	for size < len(s) && isDigit(s[size]) {
		size++
	}
	return size
}

// fractionSize is how many digits stand behind the point with which s begins, 0 if it begins with none.
func fractionSize(s string) int {
	digits, pointed := strings.CutPrefix(s, ".")
	if !pointed {
		return 0
	}
	return digitsSize(digits)
}

// withoutNoughts is digits as value.Parse has them.
func withoutNoughts(digits string) string {
	digits = strings.TrimLeft(digits, "0")
	if digits == "" {
		return "0"
	}
	return digits
}

func isLetter(c byte) bool {
	return 'a' <= c && c <= 'z' || 'A' <= c && c <= 'Z' || c == '_'
}

func isDigit(c byte) bool { return '0' <= c && c <= '9' }
