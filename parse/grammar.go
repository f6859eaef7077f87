package parse

import (
	"slices"

	"lockstep/api"
)

// The lines of the grammar by which expressions are read: what is read by one binds less than what is read by those behind it.
const (
	orLine = iota
	andLine
	notLine
	testLine
	sumLine
	productLine
	minusLine
	lastLine
)

// Limits that api has no names for.
const (
	maxKeys  = 16 // keys of a table
	maxGroup = 16
	maxOrder = 16
	maxSet   = 16
	maxNames = 16 // names of an INSERT, and its values
	maxIn    = 64
)

// between is what stands between the Parts of a line that has any number of them.
func between(line int) []string {
	switch line {
	case orLine:
		return []string{"or"}
	case andLine:
		return []string{"and"}
	case sumLine:
		return []string{"+", "-", "||"}
	case productLine:
		return []string{"*", "/"}
	}
	return nil
}

// comparisons are what may stand between two Parts of a test.
func comparisons() []string {
	return []string{"=", "<>", "<", "<=", ">", ">="}
}

// lineOf is the line by which an expression is read.
func lineOf(e *api.Expr) int {
	switch e.Op {
	case "not":
		if isNegated(e) {
			return testLine
		}
		return notLine
	case "is null", "like", "in":
		return testLine
	case "neg":
		return minusLine
	}
	for line := range lastLine {
		if slices.Contains(between(line), e.Op) {
			return line
		}
	}
	if slices.Contains(comparisons(), e.Op) {
		return testLine
	}
	return lastLine
}

// isNegated tells whether a not stands within the test that it is of: IS NOT NULL, NOT LIKE, NOT IN.
func isNegated(e *api.Expr) bool {
	return e.Op == "not" && len(e.Parts) == 1 && slices.Contains([]string{"is null", "like", "in"}, e.Parts[0].Op)
}

// partsOf is how many Parts an expression has, by its Op: at least and at most. (Of an Op that is none, no number will do.)
func partsOf(op string) (int, int) {
	switch op {
	case "value", "column", "param":
		return 0, 0
	case "not", "neg", "is null", "cast", "length":
		return 1, 1
	case "and", "or", "=", "<>", "<", "<=", ">", ">=", "+", "-", "*", "/", "||", "like", "coalesce":
		return 2, 2
	case "substr", "case":
		return 3, 3
	case "in":
		return 2, 1 + maxIn
	}
	return 1, 0
}

// isAgg tells whether a word is that of an aggregate.
func isAgg(word string) bool {
	return slices.Contains([]string{"count", "sum", "min", "max", "avg"}, word)
}

// typeOf is the type that a word says, 0 if it says none.
func typeOf(word string) int {
	switch word {
	case "bigint":
		return api.BigInt
	case "decimal":
		return api.Dec
	case "varchar":
		return api.Text
	case "boolean":
		return api.Bool
	}
	return 0
}

// usualName is the name that an item has where no other one is said.
func usualName(m *api.Item) string {
	switch {
	case m.Agg != "":
		return m.Agg
	case m.Expr.Op == "column":
		return m.Expr.Name
	}
	return ""
}

// hasPrimary tells whether a table's first key is one, and does not stand for none.
func hasPrimary(t *api.Table) bool {
	return t.Keys[0].Name != ""
}

// keysOf is how many keys are declared of a table.
func keysOf(t *api.Table) int {
	if hasPrimary(t) {
		return len(t.Keys)
	}
	return len(t.Keys) - 1
}
