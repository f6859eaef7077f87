package ring_test

import (
	"math"
	"math/rand"
	"slices"
	"testing"

	"lockstep/api"
)

// gone is which of some values go, told value by value out of where each belongs.
func gone(all [][api.MaxParts + 1]int, from, to int) []api.Move {
	var l []api.Move
	for i, at := range all {
		if at[from] != at[to] {
			l = append(l, api.Move{I: i, From: at[from], To: at[to]})
		}
	}
	return l
}

// P18.2, P18.3: of each pair of from and to: who goes, by their numbers; with more only to new ones, with fewer only from those that are no more.
func TestMovesModel(t *testing.T) {
	t.Parallel()
	l := many(rand.New(rand.NewSource(187)), 400)
	var all [][api.MaxParts + 1]int
	for _, v := range l {
		all = append(all, places(v))
	}
	for from := 1; from <= api.MaxParts; from++ {
		for to := 1; to <= api.MaxParts; to++ {
			got := moves(t, l, from, to)
			if want := gone(all, from, to); !slices.Equal(got, want) {
				t.Fatalf("Moves from %d to %d: %v, not %v", from, to, got, want)
			}
			for _, m := range got {
				if m.From >= from || m.To >= to || from < to && m.To < from || from > to && m.From < to {
					t.Fatalf("Moves from %d to %d: %v", from, to, m)
				}
			}
			if (len(got) == 0) != (from == to) {
				t.Fatalf("Moves from %d to %d: %d go", from, to, len(got))
			}
		}
	}
}

// P18.2: by hand: 1 belongs to the partition 1 of 2 and of 3, to 3 of 4 and of 5, to 5 of 8 and of 16.
func TestMovesByHand(t *testing.T) {
	l := []api.Value{num(1), null(), num(-1), num(1), truth(1)}
	for _, x := range []struct {
		from, to int
		want     []api.Move
	}{
		{2, 3, []api.Move{{I: 2, From: 1, To: 2}}},
		{3, 4, []api.Move{{I: 0, From: 1, To: 3}, {I: 3, From: 1, To: 3}}},
		{4, 3, []api.Move{{I: 0, From: 3, To: 1}, {I: 3, From: 3, To: 1}}},
		{2, 2, nil},
		{8, 16, nil},
		{64, 1, []api.Move{{I: 0, From: 27}, {I: 2, From: 16}, {I: 3, From: 27}, {I: 4, From: 43}}},
	} {
		if got := moves(t, l, x.from, x.to); !slices.Equal(got, x.want) {
			t.Errorf("Moves from %d to %d: %v, not %v", x.from, x.to, got, x.want)
		}
	}
}

// P18.2: of no value, of NULLs, and of one value several times.
func TestMovesFew(t *testing.T) {
	for from := 1; from <= api.MaxParts; from++ {
		for to := 1; to <= api.MaxParts; to++ {
			for _, l := range [][]api.Value{nil, {}, {null()}, {null(), null(), null()}} {
				if got := moves(t, l, from, to); len(got) != 0 {
					t.Errorf("Moves of %v from %d to %d: %v", l, from, to, got)
				}
			}
			var want []api.Move
			if was, is := of(t, text("a"), from), of(t, text("a"), to); was != is {
				want = []api.Move{{I: 0, From: was, To: is}, {I: 2, From: was, To: is}, {I: 3, From: was, To: is}}
			}
			if got := moves(t, []api.Value{text("a"), null(), text("a"), text("a"), null()}, from, to); !slices.Equal(got, want) {
				t.Errorf("Moves from %d to %d: %v, not %v", from, to, got, want)
			}
		}
	}
}

// P18.2: as many values as there may be, and one more.
func TestMovesMany(t *testing.T) {
	l := upTo(mostValues + 1)
	for _, x := range [][2]int{{1, 64}, {64, 1}, {7, 8}, {5, 5}} {
		from, to := x[0], x[1]
		var want []api.Move
		for i, v := range l[:mostValues] {
			if was, is := of(t, v, from), of(t, v, to); was != is {
				want = append(want, api.Move{I: i, From: was, To: is})
			}
		}
		if got := moves(t, l[:mostValues], from, to); !slices.Equal(got, want) {
			t.Errorf("Moves from %d to %d: %d go, not %d", from, to, len(got), len(want))
		}
		movesFail(t, l, from, to, api.ErrLong)
	}
}

// P18.2: what is wrong comes in the order: one of both numbers of partitions, too many values, the first value that can't be; also where nothing could go.
func TestMovesFlaws(t *testing.T) {
	small, over := upTo(9), upTo(mostValues+2)
	for _, f := range flaws() {
		for _, x := range [][2]int{{1, 1}, {1, 64}, {64, 1}, {64, 64}, {4, 5}, {5, 4}} {
			for _, at := range []int{0, 4, 8} {
				movesFail(t, with(small, at, f.v), x[0], x[1], f.why)
			}
			for _, at := range []int{0, mostValues - 1, mostValues, mostValues + 1} {
				movesFail(t, with(over, at, f.v), x[0], x[1], api.ErrLong)
			}
		}
		for _, bad := range []int{math.MinInt, -1, 0, 65, math.MaxInt} {
			for _, x := range [][2]int{{bad, 1}, {1, bad}, {bad, 64}, {64, bad}, {bad, bad}, {bad, 65}, {0, bad}} {
				for _, l := range [][]api.Value{nil, small, with(small, 0, f.v), over, with(over, 0, f.v)} {
					movesFail(t, l, x[0], x[1], api.ErrArg)
				}
			}
		}
		for _, other := range flaws() {
			movesFail(t, with(with(small, 3, f.v), 7, other.v), 4, 5, f.why)
		}
	}
}
