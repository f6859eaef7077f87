package ring_test

import (
	"math"
	"math/rand"
	"slices"
	"strings"
	"testing"

	"lockstep/api"
)

// counted is how many of some values belong to each partition, told value by value.
func counted(l []api.Value, parts int) []int {
	many := make([]int, parts)
	for _, v := range l {
		many[places(v)[parts]]++
	}
	return many
}

// upTo is so many BIGINTs from 0 on.
func upTo(n int) []api.Value {
	l := make([]api.Value, n)
	for i := range l {
		l[i] = num(int64(i))
	}
	return l
}

// with is a list with another value at a place.
func with(l []api.Value, at int, v api.Value) []api.Value {
	l = slices.Clone(l)
	l[at] = v
	return l
}

// P18.2: of no value, and of one: of each partition a number.
func TestSpreadFew(t *testing.T) {
	for parts := 1; parts <= api.MaxParts; parts++ {
		for _, l := range [][]api.Value{nil, {}} {
			if got := spread(t, l, parts); !slices.Equal(got, make([]int, parts)) {
				t.Errorf("Spread of none among %d: %v", parts, got)
			}
		}
		for _, v := range edges() {
			want := make([]int, parts)
			want[of(t, v, parts)] = 1
			if got := spread(t, []api.Value{v}, parts); !slices.Equal(got, want) {
				t.Errorf("Spread of %.20v among %d: %v, not %v", v, parts, got, want)
			}
		}
	}
}

// P18.2: a thousand numbers, by hand.
func TestSpreadByHand(t *testing.T) {
	for _, want := range [][]int{{1000}, {247, 266, 247, 240}} {
		if got := spread(t, upTo(1000), len(want)); !slices.Equal(got, want) {
			t.Errorf("Spread among %d: %v, not %v", len(want), got, want)
		}
	}
}

// P18.2: any values among any partitions.
func TestSpreadModel(t *testing.T) {
	t.Parallel()
	r := rand.New(rand.NewSource(186))
	for range 300 {
		var l []api.Value
		for range r.Intn(12) {
			l = append(l, drawn(r))
		}
		parts := 1 + r.Intn(api.MaxParts)
		if got, want := spread(t, l, parts), counted(l, parts); !slices.Equal(got, want) {
			t.Fatalf("Spread of %v among %d: %v, not %v", l, parts, got, want)
		}
	}
}

// P18.2: as many values as there may be, and one more.
func TestSpreadMany(t *testing.T) {
	l := upTo(mostValues + 1)
	for _, parts := range []int{1, 3, 64} {
		want := make([]int, parts)
		for _, v := range l[:mostValues] {
			want[of(t, v, parts)]++
		}
		if got := spread(t, l[:mostValues], parts); !slices.Equal(got, want) {
			t.Errorf("Spread of %d among %d: %v, not %v", mostValues, parts, got, want)
		}
		spreadFails(t, l, parts, api.ErrLong)
		spreadFails(t, append(slices.Clone(l), l...), parts, api.ErrLong)
	}
}

// P18.2: the longest texts, and as many of them as there may be.
func TestSpreadLong(t *testing.T) {
	l := slices.Repeat([]api.Value{text(strings.Repeat("é", api.MaxText/2))}, mostValues)
	want := make([]int, 64)
	want[of(t, l[0], 64)] = mostValues
	if got := spread(t, l, 64); !slices.Equal(got, want) {
		t.Errorf("Spread: %v, not %v", got, want)
	}
}

// P18.2: what is wrong comes in the order: the partitions, too many values, the first value that can't be.
func TestSpreadFlaws(t *testing.T) {
	small, full, over := upTo(9), upTo(mostValues), upTo(mostValues+2)
	for _, f := range flaws() {
		for _, parts := range []int{1, 4, 64} {
			for _, at := range []int{0, 4, 8} {
				spreadFails(t, with(small, at, f.v), parts, f.why)
			}
			spreadFails(t, with(full, mostValues-1, f.v), parts, f.why)
			for _, at := range []int{0, 5, mostValues - 1, mostValues, mostValues + 1} {
				spreadFails(t, with(over, at, f.v), parts, api.ErrLong)
			}
		}
		for _, parts := range []int{math.MinInt, -1, 0, 65, math.MaxInt} {
			spreadFails(t, nil, parts, api.ErrArg)
			spreadFails(t, small, parts, api.ErrArg)
			spreadFails(t, with(small, 0, f.v), parts, api.ErrArg)
			spreadFails(t, over, parts, api.ErrArg)
			spreadFails(t, with(over, 0, f.v), parts, api.ErrArg)
		}
		for _, other := range flaws() {
			spreadFails(t, with(with(small, 3, f.v), 7, other.v), 4, f.why)
		}
	}
}
