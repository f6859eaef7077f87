package ring_test

import (
	"math"
	"math/rand"
	"testing"

	"lockstep/api"
	"lockstep/ring"
)

// The chapter's example.
func TestExample(t *testing.T) {
	if p, why := ring.Of(null(), 64); p != 0 || why != api.OK {
		t.Errorf("Of(NULL, 64): %d %v", p, why)
	}
	for _, v := range many(rand.New(rand.NewSource(183)), 300) {
		if p, why := ring.Of(v, 1); p != 0 || why != api.OK {
			t.Errorf("Of(%.20v, 1): %d %v", v, p, why)
		}
	}
}

// P18.1: partitions are from 1 to 64.
func TestOfParts(t *testing.T) {
	for _, v := range edges() {
		for _, parts := range []int{0, -1, -64, -256, math.MinInt, 65, 66, 128, 255, 256, 257, 1<<32 + 1, math.MaxInt} {
			ofFails(t, v, parts, api.ErrArg)
		}
		for _, parts := range []int{1, 2, 63, 64} {
			if got, want := of(t, v, parts), places(v)[parts]; got != want {
				t.Errorf("Of(%.20v, %d): %d, not %d", v, parts, got, want)
			}
		}
	}
}

// P18.1: behind partitions that can't be comes what is wrong with the value, also where there is but one partition.
func TestOfFlaw(t *testing.T) {
	for _, f := range flaws() {
		for _, parts := range []int{1, 2, 63, 64} {
			ofFails(t, f.v, parts, f.why)
		}
		for _, parts := range []int{-1, 0, 65, math.MaxInt} {
			ofFails(t, f.v, parts, api.ErrArg)
		}
	}
}

// P18.1: NULL belongs to the first one of however many.
func TestOfNull(t *testing.T) {
	for parts := 1; parts <= api.MaxParts; parts++ {
		if p := of(t, null(), parts); p != 0 {
			t.Errorf("Of(NULL, %d): %d", parts, p)
		}
	}
}

// P18.1: some values and where they belong, by hand.
func TestOfByHand(t *testing.T) {
	counts := []int{1, 2, 3, 4, 5, 8, 16, 64}
	for _, x := range []struct {
		v    api.Value
		want []int
	}{
		{num(1), []int{0, 1, 1, 3, 3, 5, 5, 27}},
		{num(-1), []int{0, 1, 2, 2, 4, 7, 7, 16}},
		{num(0), []int{0, 1, 1, 3, 3, 6, 6, 17}},
		{num(math.MinInt64), []int{0, 0, 0, 0, 0, 7, 7, 24}},
		{num(math.MaxInt64), []int{0, 0, 2, 2, 2, 2, 2, 36}},
		{dec(10000), []int{0, 0, 0, 0, 4, 4, 11, 57}},
		{dec(1), []int{0, 1, 1, 1, 4, 7, 12, 32}},
		{text(""), []int{0, 0, 0, 3, 3, 5, 5, 31}},
		{text("a"), []int{0, 1, 1, 1, 1, 1, 14, 26}},
		{text("\x00"), []int{0, 0, 0, 0, 0, 6, 6, 35}},
		{text("é"), []int{0, 0, 2, 2, 4, 4, 15, 17}},
		{truth(0), []int{0, 0, 2, 2, 2, 2, 8, 60}},
		{truth(1), []int{0, 0, 0, 0, 0, 0, 0, 43}},
	} {
		for i, parts := range counts {
			if p := of(t, x.v, parts); p != x.want[i] {
				t.Errorf("Of(%v, %d): %d, not %d", x.v, parts, p, x.want[i])
			}
		}
	}
}

// P18.1: among each number of partitions each of them is the one that wants some value most; the one that does has it.
func TestOfEach(t *testing.T) {
	t.Parallel()
	r := rand.New(rand.NewSource(184))
	for parts := 1; parts <= api.MaxParts; parts++ {
		won := map[int]bool{}
		for tries := 0; len(won) < parts; tries++ {
			if tries == 20000 {
				t.Fatalf("of %d partitions only %d have some value", parts, len(won))
			}
			v := drawn(r)
			if v.Type == api.Null {
				continue
			}
			p := of(t, v, parts)
			for other := range parts {
				if other != p && weight(t, v, other) >= weight(t, v, p) {
					t.Fatalf("Of(%v, %d): %d, but %d wants it as much", v, parts, p, other)
				}
			}
			won[p] = true
		}
	}
}

// P18.1: of any values, by all Weights told anew.
func TestOfModel(t *testing.T) {
	t.Parallel()
	for _, v := range many(rand.New(rand.NewSource(185)), 1500) {
		for parts, want := range places(v) {
			if parts == 0 {
				continue
			}
			if got := of(t, v, parts); got != want {
				t.Fatalf("Of(%.20v, %d): %d, not %d", v, parts, got, want)
			}
		}
	}
}
