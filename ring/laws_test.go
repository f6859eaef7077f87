package ring_test

import (
	"math/rand"
	"slices"
	"testing"

	"lockstep/api"
	"lockstep/ring"
	"lockstep/value"
)

// P18.3: with one partition more a value stays or goes to that one, so with one fewer only those go that belonged to the last; and so it goes on.
func TestNothingInBetween(t *testing.T) {
	t.Parallel()
	for _, v := range many(rand.New(rand.NewSource(188)), 5000) {
		at := 0
		for parts := 1; parts <= api.MaxParts; parts++ {
			p := of(t, v, parts)
			if p != at && p != parts-1 {
				t.Fatalf("%.20v: of %d to %d, of one less to %d", v, parts, p, at)
			}
			at = p
		}
	}
}

// P18.3: those that go take about as many from all of the others, and come to about as many of these.
func TestMovesFromAll(t *testing.T) {
	l := upTo(20000)
	from, to := make([]int, 4), make([]int, 4)
	for _, m := range moves(t, l, 4, 5) {
		from[m.From]++
	}
	for _, m := range moves(t, l, 5, 4) {
		to[m.To]++
	}
	if !slices.Equal(from, to) || slices.Min(from) < 900 || slices.Max(from) > 1100 {
		t.Errorf("from %v, and back to %v", from, to)
	}
}

// P18.4: a value alone, beside others, and these in another order.
func TestBesideOthers(t *testing.T) {
	t.Parallel()
	r := rand.New(rand.NewSource(189))
	for range 400 {
		l := many(r, 40+r.Intn(20))[20:]
		parts, to := 1+r.Intn(api.MaxParts), 1+r.Intn(api.MaxParts)
		all, sum := make([]int, parts), 0
		for i, n := range spread(t, l, parts) {
			all[i] = n
			sum += n
		}
		if sum != len(l) {
			t.Fatalf("Spread adds up to %d, not %d", sum, len(l))
		}
		var each []api.Move
		for i, v := range l {
			all[of(t, v, parts)]--
			for _, m := range moves(t, []api.Value{v}, parts, to) {
				m.I += i
				each = append(each, m)
			}
		}
		if !slices.Equal(all, make([]int, parts)) {
			t.Fatalf("Spread of %v among %d: off by %v", l, parts, all)
		}
		if got := moves(t, l, parts, to); !slices.Equal(got, each) {
			t.Fatalf("Moves of %v from %d to %d: %v, not %v", l, parts, to, got, each)
		}
		turned := slices.Clone(l)
		r.Shuffle(len(turned), func(i, j int) { turned[i], turned[j] = turned[j], turned[i] })
		if !slices.Equal(spread(t, l, parts), spread(t, turned, parts)) {
			t.Fatalf("Spread of %v hangs on the order", l)
		}
	}
}

// P18.4: a Spread of two lists in a row adds up what each has.
func TestSpreadAddsUp(t *testing.T) {
	l := many(rand.New(rand.NewSource(190)), 300)
	for parts := 1; parts <= api.MaxParts; parts++ {
		for _, cut := range []int{0, 1, 77, 300} {
			sum := spread(t, l[:cut], parts)
			for i, n := range spread(t, l[cut:], parts) {
				sum[i] += n
			}
			if !slices.Equal(sum, spread(t, l, parts)) {
				t.Errorf("Spread cut at %d: %v", cut, sum)
			}
		}
	}
}

// P18.4: what a value's Type does not name plays no part.
func TestSame(t *testing.T) {
	for _, v := range edges() {
		w := v
		if v.Type == api.Text || v.Type == api.Null {
			w.Int = 77
		}
		if v.Type != api.Text {
			w.Text = "\xffany"
		}
		if w == v || !value.Same(v, w) {
			t.Fatalf("%v and %v", v, w)
		}
		for part := range api.MaxParts {
			if a, b := weight(t, v, part), weight(t, w, part); a != b {
				t.Errorf("Weight(%v, %d): %x, not %x", w, part, b, a)
			}
			if a, b := of(t, v, part+1), of(t, w, part+1); a != b {
				t.Errorf("Of(%v, %d): %d, not %d", w, part+1, b, a)
			}
			if got := spread(t, []api.Value{v, w, v}, part+1); got[of(t, v, part+1)] != 3 {
				t.Errorf("Spread of %v and %v: %v", v, w, got)
			}
			if a, b := moves(t, []api.Value{v}, 64, part+1), moves(t, []api.Value{w}, 64, part+1); !slices.Equal(a, b) {
				t.Errorf("Moves of %v and %v: %v %v", v, w, a, b)
			}
		}
	}
	for _, f := range flaws() {
		if f.v.Type == api.Text {
			f.v.Int = 5
		} else {
			f.v.Text = "any"
		}
		ofFails(t, f.v, 7, f.why)
		weightFails(t, f.v, 7, f.why)
	}
}

// P18.4: values that are not the same, however alike, belong where each belongs: of 8 partitions these to another one each.
func TestNotSame(t *testing.T) {
	var got []int
	for _, v := range []api.Value{num(1), dec(10000), text("1"), truth(1)} {
		got = append(got, of(t, v, 8))
	}
	if want := []int{5, 4, 6, 0}; !slices.Equal(got, want) {
		t.Errorf("%v, not %v", got, want)
	}
}

// Memory: what is handed in stays as it was, its spare room too, and isn't kept; what is answered is nobody else's, and comes again the same.
func TestMemory(t *testing.T) {
	t.Parallel()
	r := rand.New(rand.NewSource(191))
	for range 300 {
		l := make([]api.Value, 30, 40)
		for i := range l[:cap(l)] {
			l[:cap(l)][i] = drawn(r)
		}
		if r.Intn(5) == 0 {
			l[r.Intn(30)] = truth(7)
		}
		parts, to := 1+r.Intn(api.MaxParts), 1+r.Intn(api.MaxParts)
		was := slices.Clone(l[:cap(l)])
		many, why := ring.Spread(l, parts)
		gone, whyGone := ring.Moves(l, parts, to)
		if !slices.Equal(l[:cap(l)], was) {
			t.Fatal("what was handed in has changed")
		}
		manyWas, goneWas := slices.Clone(many), slices.Clone(gone)
		clear(l[:cap(l)])
		other, _ := ring.Spread(l, parts)
		fill(other, -1)
		if !slices.Equal(many, manyWas) || !slices.Equal(gone, goneWas) {
			t.Fatal("what was answered has changed")
		}
		fill(many, 77)
		fill(gone, api.Move{I: 77})
		many, again := ring.Spread(was[:30], parts)
		gone, againGone := ring.Moves(was[:30], parts, to)
		if !slices.Equal(many, manyWas) || !slices.Equal(gone, goneWas) || again != why || againGone != whyGone {
			t.Fatal("what was answered comes otherwise")
		}
	}
}

// fill puts something into all of a list, its spare room too.
func fill[T any](l []T, x T) {
	for i := range l[:cap(l)] {
		l[:cap(l)][i] = x
	}
}
