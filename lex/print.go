package lex

import (
	"strings"

	"lockstep/api"
	"lockstep/value"
)

// maxPrinted is how many tokens are printed at most.
const maxPrinted = 1 << 14

// Print is tokens as a text.
func Print(l []api.Token) (string, api.Errno) {
	if len(l) > maxPrinted {
		return "", api.ErrArg
	}
	if last := len(l) - 1; last >= 0 && l[last].Kind == api.End {
		l = l[:last]
	}
	words := make([]string, len(l))
	for i, t := range l {
		if !canBe(t) {
			return "", api.ErrArg
		}
		words[i] = printToken(t)
	}
	return strings.Join(words, " "), api.OK
}

// canBe tells whether there is such a token, an End left out.
func canBe(t api.Token) bool {
	switch t.Kind {
	case api.Word, api.Param:
		return Plain(t.Text)
	case api.Quoted:
		return Name(t.Text)
	case api.Literal:
		return canBeLiteral(t.Value)
	case api.Sign:
		return t.Text != "" && signSize(t.Text) == len(t.Text)
	}
	return false
}

// canBeLiteral: what has a sign ahead, and what is a word, is no literal but a token or two of another kind.
func canBeLiteral(v api.Value) bool {
	if value.Check(v) != api.OK {
		return false
	}
	switch v.Type {
	case api.BigInt, api.Dec:
		return v.Int >= 0
	case api.Text:
		return strings.IndexByte(v.Text, 0) < 0
	}
	return false
}

func printToken(t api.Token) string {
	switch t.Kind {
	case api.Quoted:
		return inQuotes(t.Text)
	case api.Literal:
		s, _ := value.Print(t.Value)
		return s
	case api.Param:
		return ":" + t.Text
	}
	return t.Text
}
