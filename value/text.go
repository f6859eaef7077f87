package value

import (
	"strconv"
	"strings"

	"lockstep/api"
)

// Cast is a value as one of another type.
func Cast(v api.Value, to int) (api.Value, api.Errno) {
	if to < api.BigInt || to > api.Bool {
		return api.Value{}, api.ErrArg
	}
	if why := Check(v); why != api.OK {
		return api.Value{}, why
	}
	switch {
	case v.Type == api.Null:
		return api.Value{}, api.OK
	case v.Type == to:
		return onlyNamed(v), api.OK
	case v.Type == api.Text:
		return castText(v.Text, to)
	case to == api.Text:
		s, why := Print(v)
		return api.Value{Type: api.Text, Text: s}, why
	}
	return castNumber(v, to)
}

// Print is the literal of a value.
func Print(v api.Value) (string, api.Errno) {
	if why := Check(v); why != api.OK {
		return "", why
	}
	switch v.Type {
	case api.BigInt:
		return strconv.FormatInt(v.Int, 10), api.OK
	case api.Dec:
		return printParts(v.Int), api.OK
	case api.Text:
		return "'" + strings.ReplaceAll(v.Text, "'", "''") + "'", api.OK
	case api.Bool:
		return printTruth(v.Int), api.OK
	}
	return "NULL", api.OK
}

// Parse is the value of a literal.
func Parse(s string) (api.Value, api.Errno) {
	if len(s) > 2*api.MaxText+2 {
		return api.Value{}, api.ErrLong
	}
	switch s {
	case "NULL":
		return api.Value{}, api.OK
	case "TRUE":
		return truth(true), api.OK
	case "FALSE":
		return truth(false), api.OK
	}
	if strings.HasPrefix(s, "'") {
		return parseText(s)
	}
	return parseNumber(s)
}

// onlyNamed is a value that can be, without what its type does not name.
func onlyNamed(v api.Value) api.Value {
	if v.Type == api.Text {
		return api.Value{Type: v.Type, Text: v.Text}
	}
	return api.Value{Type: v.Type, Int: v.Int}
}

// castText tells what Parse refuses as Parse does, so that a number that is too great is ErrOver; ErrForm is also for a literal of another type.
func castText(s string, to int) (api.Value, api.Errno) {
	v, why := Parse(s)
	if why != api.OK {
		return api.Value{}, why
	}
	if v.Type == to {
		return v, api.OK
	}
	if v.Type == api.BigInt && to == api.Dec {
		return castNumber(v, to)
	}
	return api.Value{}, api.ErrForm
}

// castNumber is a number as one of the other type of numbers.
func castNumber(v api.Value, to int) (api.Value, api.Errno) {
	if groupOf(v.Type) != numbers || groupOf(to) != numbers {
		return api.Value{}, api.ErrType
	}
	if to == api.BigInt {
		return api.Value{Type: api.BigInt, Int: v.Int / api.Scale}, api.OK
	}
	n, why := partsOf(v)
	return number(api.Dec, n, why)
}

func printTruth(n int64) string {
	if n == 1 {
		return "TRUE"
	}
	return "FALSE"
}

func printParts(n int64) string {
	whole, fraction := size(n)/api.Scale, size(n)%api.Scale
	// A unit more, whose digit is left out again, keeps the noughts ahead.
	digits := strconv.FormatUint(api.Scale+fraction, 10)[1:]
	digits = digits[:1] + strings.TrimRight(digits[1:], "0")
	s := strconv.FormatUint(whole, 10) + "." + digits
	if n < 0 {
		return "-" + s
	}
	return s
}

func parseText(s string) (api.Value, api.Errno) {
	if len(s) < 2 || s[len(s)-1] != '\'' {
		return api.Value{}, api.ErrForm
	}
	inner := s[1 : len(s)-1]
	if strings.Contains(strings.ReplaceAll(inner, "''", ""), "'") {
		return api.Value{}, api.ErrForm
	}
	text := strings.ReplaceAll(inner, "''", "'")
	if why := checkText(text); why != api.OK {
		return api.Value{}, why
	}
	return api.Value{Type: api.Text, Text: text}, api.OK
}

func parseNumber(s string) (api.Value, api.Errno) {
	unsigned, negative := strings.CutPrefix(s, "-")
	whole, fraction, pointed := strings.Cut(unsigned, ".")
	if !isWhole(whole) {
		return api.Value{}, api.ErrForm
	}
	if !pointed {
		if negative && whole == "0" {
			return api.Value{}, api.ErrForm
		}
		n, why := readNumber(whole, negative)
		return number(api.BigInt, n, why)
	}
	if len(fraction) < 1 || len(fraction) > 4 || !allDigits(fraction) {
		return api.Value{}, api.ErrForm
	}
	n, why := readNumber(whole+fraction+strings.Repeat("0", 4-len(fraction)), negative)
	return number(api.Dec, n, why)
}

// isWhole tells whether s is digits without noughts ahead.
func isWhole(s string) bool {
	return s != "" && allDigits(s) && (s == "0" || s[0] != '0')
}

func allDigits(s string) bool {
	for _, r := range s {
		if r < '0' || r > '9' {
			return false
		}
	}
	return true
}

// readNumber reads digits: what can be wrong with them is that they are too many.
func readNumber(digits string, negative bool) (int64, api.Errno) {
	n, err := strconv.ParseUint(digits, 10, 64)
	if err != nil {
		return 0, api.ErrOver
	}
	return signed(n, negative)
}
