package snapshot_test

import (
	"bytes"
	"fmt"
	"slices"
	"strings"
	"testing"

	"lockstep/api"
	"lockstep/snapshot"
)

// roomy is a list with spare room behind it that is filled in.
func roomy[T any](l []T, spare T) []T {
	return append(slices.Clone(l), spare, spare)[:len(l)]
}

// roomySnap is a snapshot of which each list has spare room that is filled in.
func roomySnap(s api.Snap) api.Snap {
	s = plain(s)
	for i := range s.Tables {
		x := &s.Tables[i]
		x.Form.Cols = roomy(x.Form.Cols, api.Column{Name: "spare"})
		for j := range x.Form.Keys {
			x.Form.Keys[j].Cols = roomy(x.Form.Keys[j].Cols, 77)
		}
		x.Form.Keys = roomy(x.Form.Keys, api.Key{Name: "spare"})
		for j := range x.Rows {
			x.Rows[j].Row = roomy(x.Rows[j].Row, text("spare"))
		}
		x.Rows = roomy(x.Rows, kept(4711, text("spare")))
	}
	s.Tables = roomy(s.Tables, api.Stored{Next: 4711})
	s.More = roomy(s.More, '#')
	return s
}

// lists is each list of a snapshot: what tells all of it, its spare room too, but not of lists in it; and what writes over all of it.
func lists(s *api.Snap) (tell []func() string, smear []func()) {
	add(&tell, &smear, s.More, '!', itself)
	add(&tell, &smear, s.Tables, api.Stored{Next: 1}, func(x api.Stored) any {
		return []any{x.Form.Name, x.Form.Part, x.Form.Most, x.Next, len(x.Form.Cols), len(x.Form.Keys), len(x.Rows)}
	})
	for i := range s.Tables {
		x := &s.Tables[i]
		add(&tell, &smear, x.Form.Cols, api.Column{Name: "smeared"}, itself)
		add(&tell, &smear, x.Form.Keys, api.Key{Name: "smeared"}, func(k api.Key) any { return []any{k.Name, k.Unique, len(k.Cols)} })
		add(&tell, &smear, x.Rows, kept(9999), func(k api.Kept) any { return []any{k.ID, len(k.Row)} })
		for _, k := range x.Form.Keys {
			add(&tell, &smear, k.Cols, 99, itself)
		}
		for _, k := range x.Rows {
			add(&tell, &smear, k.Row, text("smeared"), itself)
		}
	}
	return tell, smear
}

func itself[T any](x T) any { return x }

func add[T any](tell *[]func() string, smear *[]func(), l []T, with T, bare func(T) any) {
	whole := l[:cap(l)]
	*tell = append(*tell, func() string {
		var all []any
		for _, x := range whole {
			all = append(all, bare(x))
		}
		return fmt.Sprintf("%#v", all)
	})
	*smear = append(*smear, func() {
		for i := range whole {
			whole[i] = with
		}
	})
}

func tellAll(tell []func() string) string {
	var w strings.Builder
	for _, f := range tell {
		fmt.Fprintln(&w, f())
	}
	return w.String()
}

// Memory: what is handed in is not changed, its spare room neither.
func TestHandedIn(t *testing.T) {
	for what, s := range samples() {
		a, b := roomySnap(s), roomySnap(s)
		tell, _ := lists(&a)
		was := tellAll(tell)
		encoded(t, a)
		snapshot.Same(a, b)
		f := disk(t, 10000)
		all(t, snapshot.Save(f, "p0", a))
		if tellAll(tell) != was {
			t.Errorf("%s was changed", what)
		}
		bytesIn := roomy(encoded(t, a), '#')
		whole := slices.Clone(bytesIn[:cap(bytesIn)])
		if _, why := snapshot.Decode(bytesIn); why != api.OK || !bytes.Equal(bytesIn[:cap(bytesIn)], whole) {
			t.Errorf("%s: bytes were changed, %v", what, why)
		}
	}
}

// Memory: what was handed in is not kept: whatever becomes of it, what was told and Saved stays.
func TestNotKept(t *testing.T) {
	for what, s := range samples() {
		a := roomySnap(s)
		b := encoded(t, a)
		f := disk(t, 10000)
		all(t, snapshot.Save(f, "p0", a))
		d, _ := snapshot.Decode(b)
		was := told(d)
		_, smear := lists(&a)
		for _, over := range slices.Backward(smear) {
			over()
		}
		if !bytes.Equal(b, bytesOf(s)) {
			t.Errorf("%s: the bytes hang on the snapshot", what)
		}
		b = b[:cap(b)]
		for i := range b {
			b[i] = '#'
		}
		if told(d) != was || told(d) != told(plain(s)) {
			t.Errorf("%s: the snapshot hangs on the bytes", what)
		}
		if got, is, _ := snapshot.Latest(f, "p0"); !is || told(got) != told(plain(s)) {
			t.Errorf("%s: the disk hangs on the snapshot", what)
		}
	}
}

// Memory: no list of an answer, its spare room neither, is shared with another one of it, or of another answer, or with the disk.
func TestToldApart(t *testing.T) {
	for what, s := range samples() {
		b := encoded(t, s)
		f := disk(t, 10000)
		all(t, snapshot.Save(f, "p0", s))
		other, _ := snapshot.Decode(b)
		more, _, _ := snapshot.Latest(f, "p0")
		count := 1
		for i := 0; i < count; i++ {
			for _, ask := range []func() api.Snap{
				func() api.Snap { d, _ := snapshot.Decode(b); return d },
				func() api.Snap { d, _, _ := snapshot.Latest(f, "p0"); return d },
			} {
				d := ask()
				tell, smear := lists(&d)
				count = len(tell)
				was := make([]string, count)
				for j := range tell {
					was[j] = tell[j]()
				}
				smear[i]()
				for j := range tell {
					if j != i && tell[j]() != was[j] {
						t.Errorf("%s: list %d is changed with list %d", what, j, i)
					}
				}
				for j := range smear {
					smear[j]()
				}
			}
		}
		again, is, _ := snapshot.Latest(f, "p0")
		if told(other) != told(plain(s)) || told(more) != told(plain(s)) || !is || told(again) != told(plain(s)) {
			t.Errorf("%s: changed with another answer", what)
		}
		if !bytes.Equal(b, bytesOf(s)) {
			t.Errorf("%s: the bytes are changed", what)
		}
	}
}

// Memory: two answers of Encode, and of Numbers, share nothing.
func TestBytesApart(t *testing.T) {
	a, b := encoded(t, small()), encoded(t, small())
	a = a[:cap(a)]
	clear(a)
	if !bytes.Equal(b, bytesOf(small())) {
		t.Error("two answers share bytes")
	}
	f := disk(t, 1000)
	lay(t, f, fileOf("p0", 1), nil)
	lay(t, f, fileOf("p0", 2), nil)
	one, _ := snapshot.Numbers(f, "p0")
	two, _ := snapshot.Numbers(f, "p0")
	clear(one[:cap(one)])
	if !slices.Equal(two, []uint64{1, 2}) {
		t.Error(two)
	}
}

// From arguments alone: asked again, all is told as it was.
func TestAskedAgain(t *testing.T) {
	for what, s := range samples() {
		b := encoded(t, s)
		d, _ := snapshot.Decode(b)
		for range 3 {
			for _, other := range samples() {
				encoded(t, other)
				snapshot.Decode(b[:len(b)/2])
			}
			if e, why := snapshot.Decode(b); why != api.OK || told(e) != told(d) || !bytes.Equal(encoded(t, s), b) {
				t.Errorf("%s: %v", what, why)
			}
		}
	}
}
