package ring_test

import (
	"math"
	"math/rand"
	"strings"
	"testing"

	"lockstep/api"
	"lockstep/ring"
)

const mostValues = 65536 // of Spread and Moves

func num(n int64) api.Value   { return api.Value{Type: api.BigInt, Int: n} }
func dec(n int64) api.Value   { return api.Value{Type: api.Dec, Int: n} }
func text(s string) api.Value { return api.Value{Type: api.Text, Text: s} }
func truth(n int64) api.Value { return api.Value{Type: api.Bool, Int: n} }
func null() api.Value         { return api.Value{} }

// flaw is a value that can't be, and why.
type flaw struct {
	v   api.Value
	why api.Errno
}

func flaws() []flaw {
	return []flaw{
		{api.Value{Type: -1}, api.ErrArg},
		{api.Value{Type: 5, Int: 1}, api.ErrArg},
		{truth(2), api.ErrArg},
		{truth(-1), api.ErrArg},
		{text(strings.Repeat("x", api.MaxText+1)), api.ErrLong},
		{text("a\xff"), api.ErrForm},
	}
}

// edges are values of each type, the least and the greatest ones too.
func edges() []api.Value {
	l := []api.Value{null(), truth(0), truth(1)}
	for _, n := range []int64{0, 1, -1, 7, 255, 256, 9999, 10000, -10000, math.MaxInt64, math.MinInt64} {
		l = append(l, num(n), dec(n))
	}
	for _, s := range []string{"", "a", "aa", "\x00", "\x00\x00", "a\x00", "é", "\U0010ffff", "NULL", "it's", strings.Repeat("x", api.MaxText)} {
		l = append(l, text(s))
	}
	return l
}

// drawn is a value at random, which can be.
func drawn(r *rand.Rand) api.Value {
	switch r.Intn(10) {
	case 0:
		return null()
	case 1:
		return truth(r.Int63n(2))
	case 2:
		return dec(r.Int63n(40) - 20)
	case 3:
		return dec(int64(r.Uint64()))
	case 4:
		return num(int64(r.Uint64()))
	case 5, 6:
		return num(r.Int63n(1000) - 500)
	}
	s := make([]rune, r.Intn(6))
	for i := range s {
		s[i] = []rune{0, 1, 'a', 'b', 0xff, 0x100, 0xffff, 0x1f600}[r.Intn(8)]
	}
	return text(string(s))
}

// many is the edges, and behind these values at random.
func many(r *rand.Rand, n int) []api.Value {
	l := edges()
	for len(l) < n {
		l = append(l, drawn(r))
	}
	return l[:n]
}

// of is a value's partition, there being no error.
func of(t *testing.T, v api.Value, parts int) int {
	t.Helper()
	p, why := ring.Of(v, parts)
	if why != api.OK {
		t.Fatalf("Of(%v, %d): %v", v, parts, why)
	}
	return p
}

func weight(t *testing.T, v api.Value, part int) uint64 {
	t.Helper()
	h, why := ring.Weight(v, part)
	if why != api.OK {
		t.Fatalf("Weight(%v, %d): %v", v, part, why)
	}
	return h
}

func spread(t *testing.T, l []api.Value, parts int) []int {
	t.Helper()
	many, why := ring.Spread(l, parts)
	if why != api.OK {
		t.Fatalf("Spread of %d among %d: %v", len(l), parts, why)
	}
	return many
}

func moves(t *testing.T, l []api.Value, from, to int) []api.Move {
	t.Helper()
	all, why := ring.Moves(l, from, to)
	if why != api.OK {
		t.Fatalf("Moves of %d from %d to %d: %v", len(l), from, to, why)
	}
	return all
}

func ofFails(t *testing.T, v api.Value, parts int, want api.Errno) {
	t.Helper()
	if p, why := ring.Of(v, parts); p != 0 || why != want {
		t.Errorf("Of(%.20v, %d): %d %v, not %v", v, parts, p, why, want)
	}
}

func weightFails(t *testing.T, v api.Value, part int, want api.Errno) {
	t.Helper()
	if h, why := ring.Weight(v, part); h != 0 || why != want {
		t.Errorf("Weight(%.20v, %d): %d %v, not %v", v, part, h, why, want)
	}
}

func spreadFails(t *testing.T, l []api.Value, parts int, want api.Errno) {
	t.Helper()
	if many, why := ring.Spread(l, parts); len(many) != 0 || why != want {
		t.Errorf("Spread of %d among %d: %v %v, not %v", len(l), parts, many, why, want)
	}
}

func movesFail(t *testing.T, l []api.Value, from, to int, want api.Errno) {
	t.Helper()
	if all, why := ring.Moves(l, from, to); len(all) != 0 || why != want {
		t.Errorf("Moves of %d from %d to %d: %v %v, not %v", len(l), from, to, all, why, want)
	}
}
