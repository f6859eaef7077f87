package btree_test

import (
	"iter"
	"math/rand"
	"slices"
	"testing"

	"lockstep/api"
	"lockstep/btree"
)

type way struct {
	name string
	of   func(*btree.Tree, api.Bounds) iter.Seq2[api.Row, uint64]
	turn func([]pair) []pair
}

// ways are both of going through, and how the model's span is told by each.
func ways() []way {
	return []way{
		{"Range", (*btree.Tree).Range, slices.Clone[[]pair]},
		{"Back", (*btree.Tree).Back, turned},
	}
}

func grown(t *testing.T, n int) (*btree.Tree, *model) {
	t.Helper()
	x, m := btree.New(false), &model{}
	for i := range n {
		key := row(whole(int64(i * 2)))
		put(t, x, key, 1)
		m.put(key, 1)
	}
	return x, m
}

// P5.2: Put and Drop while it is gone through change nothing in it, of whatever size the tree is.
func TestChangedMeanwhile(t *testing.T) {
	for _, w := range ways() {
		for _, n := range []int{0, 1, 2, 16, 17, 18, 100, 1000} {
			x, m := grown(t, n)
			want := w.turn(m.span(api.Bounds{}))
			var got []pair
			for key, id := range w.of(x, api.Bounds{}) {
				got = append(got, pair{key, id})
				for d := range int64(5) {
					k := row(whole(key[0].Int + d - 2))
					if x.Drop(k, 1) != m.drop(k, 1) || x.Put(k, 2) != m.put(k, 2) {
						t.Fatal("answers meanwhile")
					}
				}
			}
			if !exactly(got, want) {
				t.Fatalf("%s of %d: %v, not %v", w.name, n, got, want)
			}
			same(t, x, m)
		}
	}
}

// P5.2: all entries dropped at the first step; and all others put at it.
func TestAllChangedAtOnce(t *testing.T) {
	for _, w := range ways() {
		x, m := grown(t, 300)
		want := w.turn(m.span(api.Bounds{}))
		var got []pair
		for key, id := range w.of(x, api.Bounds{}) {
			got = append(got, pair{key, id})
			for i := range int64(300) {
				x.Drop(row(whole(i*2)), 1)
				x.Put(row(whole(i*2+1)), 1)
			}
			if x.Len() != 300 || x.Count(api.Bounds{High: row(whole(1)), HighIn: true}) != 1 {
				t.Fatal("not changed meanwhile")
			}
		}
		if !exactly(got, want) {
			t.Errorf("%s: %v", w.name, got)
		}
	}
}

// P5.2: what is there when it begins to be gone through counts, not when it was asked for; so each time anew.
func TestGoneThroughTwice(t *testing.T) {
	for _, w := range ways() {
		x, m := btree.New(false), &model{}
		b := api.Bounds{Low: row(whole(3)), LowIn: true, High: row(whole(90))}
		s := w.of(x, b)
		for i := range int64(100) {
			if got := gone(s); !exactly(got, w.turn(m.span(b))) {
				t.Fatalf("%s: %v", w.name, got)
			}
			key := row(whole(i * 7 % 100))
			put(t, x, key, 1)
			m.put(key, 1)
		}
		if got := gone(s); !exactly(got, gone(s)) || len(got) != 87 {
			t.Errorf("%s: %v", w.name, got)
		}
		x.Drop(row(whole(50)), 1)
		if len(gone(s)) != 86 {
			t.Errorf("%s does not see what was dropped", w.name)
		}
	}
}

// P5.2: one within another of the same, with changes between.
func TestOneWithinAnother(t *testing.T) {
	for _, w := range ways() {
		x, m := grown(t, 40)
		want := w.turn(m.span(api.Bounds{}))
		s := w.of(x, api.Bounds{})
		var got []pair
		for key, id := range s {
			got = append(got, pair{key, id})
			x.Drop(key, id)
			m.drop(key, id)
			if inner := gone(s); !exactly(inner, w.turn(m.span(api.Bounds{}))) {
				t.Fatalf("%s within: %v", w.name, inner)
			}
		}
		if !exactly(got, want) || x.Len() != 0 {
			t.Errorf("%s: %v", w.name, got)
		}
	}
}

// P5.2: one that is left early tells nothing more, at each place; and may be gone through again.
func TestLeftEarly(t *testing.T) {
	for _, w := range ways() {
		x, m := grown(t, 400)
		all := w.turn(m.span(api.Bounds{}))
		s := w.of(x, api.Bounds{})
		for stop := range len(all) {
			var got []pair
			s(func(key api.Row, id uint64) bool {
				got = append(got, pair{key, id})
				return len(got) <= stop
			})
			if !exactly(got, all[:stop+1]) {
				t.Fatalf("%s left at %d: %v", w.name, stop, got)
			}
		}
		same(t, x, m)
	}
}

// What was handed in may panic: that goes through, and the tree is as it was.
func TestPanicGoesThrough(t *testing.T) {
	for _, w := range ways() {
		x, m := grown(t, 50)
		func() {
			defer func() {
				if recover() != "stop" {
					t.Error(w.name, "swallowed a panic")
				}
			}()
			w.of(x, api.Bounds{})(func(api.Row, uint64) bool { panic("stop") })
		}()
		same(t, x, m)
	}
}

// P5.2: a Clone is the same, and neither knows of the other one.
func TestClone(t *testing.T) {
	r := rand.New(rand.NewSource(9))
	values := someValues()
	type both struct {
		x *btree.Tree
		m *model
	}
	for _, unique := range []bool{false, true} {
		trees := []both{{btree.New(unique), &model{unique: unique}}}
		for i := range 4000 {
			b := trees[r.Intn(len(trees))]
			key, id := someRow(r, values, 1, 2), uint64(r.Intn(3))
			if r.Intn(5) < 3 {
				if got, want := b.x.Put(key, id), b.m.put(key, id); got != want {
					t.Fatalf("Put(%v, %d): %v, not %v", key, id, got, want)
				}
			} else if got, want := b.x.Drop(key, id), b.m.drop(key, id); got != want {
				t.Fatalf("Drop(%v, %d): %v", key, id, got)
			}
			if i%500 == 499 {
				c := both{b.x.Clone(), b.m.clone()}
				same(t, c.x, c.m)
				trees = append(trees, c)
			}
		}
		for _, b := range trees {
			same(t, b.x, b.m)
		}
	}
}

// P5.2: each entry by itself is dropped, and each between them put, out of a clone and at the first step of a going: the tree, and the going, stay as they were.
func TestEachChangeByItself(t *testing.T) {
	for _, n := range []int{1, 17, 20, 60, 350} {
		x, m := grown(t, n)
		all := m.span(api.Bounds{})
		for i := range int64(2*n + 1) {
			c, key := x.Clone(), row(whole(i-1))
			if i%2 == 0 {
				put(t, c, key, 1)
			} else if !c.Drop(key, 1) {
				t.Fatal(key, "is not there")
			}
			if !exactly(gone(x.Range(api.Bounds{})), all) {
				t.Fatalf("what is done at %v in a clone of %d is seen", key, n)
			}
			for _, w := range ways() {
				c, got := x.Clone(), []pair(nil)
				for k, id := range w.of(c, api.Bounds{}) {
					got = append(got, pair{k, id})
					if c.Drop(key, 1) != (i%2 == 1 && len(got) == 1) {
						t.Fatal("Drop of", key)
					}
				}
				if !exactly(got, w.turn(all)) {
					t.Fatalf("%s of %d sees %v dropped", w.name, n, key)
				}
			}
		}
	}
}

// P5.2: a Clone made while its tree is gone through is what the tree is then; what goes on in either is not seen in it.
func TestCloneMeanwhile(t *testing.T) {
	for _, w := range ways() {
		x, m := grown(t, 100)
		want := w.turn(m.span(api.Bounds{}))
		var got []pair
		for key, id := range w.of(x, api.Bounds{}) {
			got = append(got, pair{key, id})
			x.Drop(key, id)
			m.drop(key, id)
			c, n := x.Clone(), m.clone()
			if key[0].Int%20 == 0 {
				same(t, c, n)
			}
			for k, v := range w.of(c, api.Bounds{}) {
				c.Drop(k, v)
			}
			if c.Len() != 0 {
				t.Fatal("the clone has", c.Len())
			}
		}
		if !exactly(got, want) || x.Len() != 0 {
			t.Errorf("%s: %v", w.name, got)
		}
	}
}

// P5.2: a Clone has what its tree had, a unique one's rule and its limit among it.
func TestCloneKeepsTheRules(t *testing.T) {
	x := btree.New(true)
	put(t, x, row(whole(1)), 1)
	if x.Clone().Put(row(whole(1)), 2) != api.ErrTwice || btree.New(false).Clone().Put(row(whole(1)), 2) != api.OK {
		t.Error("unique")
	}
	y, _ := grown(t, api.MaxRows)
	c := y.Clone()
	if c.Put(row(whole(1)), 1) != api.ErrLong || !c.Drop(row(whole(0)), 1) || c.Put(row(whole(1)), 1) != api.OK || y.Put(row(whole(1)), 1) != api.ErrLong {
		t.Error("full")
	}
}

// Two objects know nothing of one another: a tree and its clone may be used at the same time, each by one goroutine.
func TestCloneBeside(t *testing.T) {
	x, _ := grown(t, 500)
	c := x.Clone()
	done := make(chan int)
	use := func(y *btree.Tree, odd int64) {
		for i := range int64(500) {
			y.Put(row(whole(i*2+1)), 1)
			y.Drop(row(whole(i*2)), uint64(odd))
		}
		done <- y.Count(api.Bounds{})
	}
	go use(x, 1)
	go use(c, 2)
	if a, b := <-done, <-done; a+b != 1500 || x.Len() != 500 || c.Len() != 1000 {
		t.Error(a, b)
	}
}
