package table_test

import (
	"math"
	"math/rand"
	"slices"
	"strings"
	"testing"

	"lockstep/api"
	"lockstep/table"
)

// fitting holds Fits, and what all who take rows answer, against one error.
func fitting(t *testing.T, f api.Table, good, r api.Row, want api.Errno) {
	t.Helper()
	if got := table.Fits(f, r); got != want || got != plainFits(f, r) {
		t.Fatalf("Fits(%.200v): %v, not %v (%v)", r, got, want, plainFits(f, r))
	}
	x, _ := made(t, f)
	if _, got := x.Insert(r); got != want {
		t.Fatalf("Insert(%.200v): %v, not %v", r, got, want)
	}
	if y, got := table.Load(f, []api.Kept{{ID: 1, Row: r}}, 2); got != want || (y != nil) != (want == api.OK) {
		t.Fatalf("Load(%.200v): %v, not %v", r, got, want)
	}
	x, _ = made(t, f)
	insert(t, x, good)
	if got := x.Update(1, r); got != want {
		t.Fatalf("Update(%.200v): %v, not %v", r, got, want)
	}
	if got, _ := x.Get(1); want == api.OK && !slices.Equal(got, bare(r)) || want != api.OK && !slices.Equal(got, good) {
		t.Fatalf("Update(%.200v): %v", r, got)
	}
}

// oneOf is a table with one column beside its primary one.
func oneOf(c api.Column) api.Table {
	c.Name = "x"
	f := people(5)
	f.Cols[1] = c
	f.Keys = f.Keys[:1]
	return f
}

// P8.1: each kind of value in a column of each type.
func TestEachValueInEachColumn(t *testing.T) {
	cols := []api.Column{{Type: api.BigInt}, {Type: api.Dec}, {Type: api.Text, Most: 1}, {Type: api.Text, Most: 5}, {Type: api.Text, Most: 4096}, {Type: api.Bool}}
	values := []api.Value{
		{}, num(0), num(math.MinInt64), dec(0), dec(math.MaxInt64), text(""), text("a"), text("é"), text("abcde"), text("abcdef"), text("éé"), text("ééé"),
		text(strings.Repeat("x", 4095)), text(strings.Repeat("x", 4096)), text(strings.Repeat("x", 4097)), text(strings.Repeat("é", 2048)),
		text("\xff"), text("abcdef\xff"), text(strings.Repeat("x", 4096) + "\xff"), text("\x00"), text("abc\x00"), text("\xed\xa0\x80"),
		truth(0), truth(1), truth(2), truth(-1), {Type: -1}, {Type: 5}, {Type: math.MinInt}, {Type: math.MaxInt, Int: 1, Text: "x"},
		{Type: api.Null, Int: 7, Text: "x"}, {Type: api.BigInt, Int: 3, Text: strings.Repeat("x", 5000)}, {Type: api.Dec, Int: 3, Text: "\xff"},
		{Type: api.Bool, Int: 1, Text: "abcdef"}, {Type: api.Text, Int: 9, Text: "a"},
	}
	for _, c := range cols {
		for _, c.NotNull = range []bool{false, true} {
			f := oneOf(c)
			good := row(num(1), api.Value{Type: c.Type})
			for _, v := range values {
				r := row(num(1), v)
				fitting(t, f, good, r, plainFits(f, r))
			}
		}
	}
}

// P8.1: the edges, by name.
func TestFitsEdges(t *testing.T) {
	f, good := wide(5), row(num(1), text("abcd"), null(), truth(1), text("é"))
	for _, x := range []struct {
		r    api.Row
		want api.Errno
	}{
		{good, api.OK},
		{row(num(1), text(""), dec(1), null(), null()), api.OK},
		{nil, api.ErrArg}, {row(), api.ErrArg}, {good[:4], api.ErrArg}, {append(slices.Clone(good), null()), api.ErrArg}, {make(api.Row, 100), api.ErrArg},
		{row(null(), text("a"), null(), null(), null()), api.ErrNull},
		{row(num(1), null(), null(), null(), null()), api.ErrNull},
		{row(dec(1), text("a"), null(), null(), null()), api.ErrType},
		{row(num(1), text("a"), num(1), null(), null()), api.ErrType},
		{row(num(1), text("a"), null(), num(1), null()), api.ErrType},
		{row(num(1), text("a"), null(), null(), truth(1)), api.ErrType},
		{row(num(1), text("abcde"), null(), null(), null()), api.ErrLong},
		{row(num(1), text("ééé"), null(), null(), null()), api.ErrLong},
		{row(num(1), text("a"), null(), null(), text("aé")), api.ErrLong},
		{row(num(1), text("a"), null(), truth(2), null()), api.ErrArg},
		{row(num(1), text("abcde\xff"), null(), null(), null()), api.ErrForm},
		{row(num(1), text("a"), text("\xff"), null(), null()), api.ErrForm},
		{row(num(1), text("a"), text(strings.Repeat("x", 4097)), null(), null()), api.ErrLong},
		{row(num(1), text("a"), text(strings.Repeat("x", 4096)), null(), null()), api.ErrType},
		{row(num(1), text("a"), truth(7), null(), null()), api.ErrArg},
	} {
		fitting(t, f, good, x.r, x.want)
	}
}

// P8.1: of several values that do not fit the first one counts; how many there are counts ahead of them.
func TestSeveralWrongValues(t *testing.T) {
	good := row(num(1), text("abcd"), null(), truth(1), text("é"))
	bad := map[int][]api.Value{
		0: {null(), dec(1), text("\xff"), text(strings.Repeat("x", 4097)), truth(2), truth(1)},
		1: {null(), num(1), text("\xff"), text("abcde"), {Type: 9}},
		2: {num(1), text("\xff"), truth(2)},
		3: {num(1), text("a"), truth(2), text("\xff")},
		4: {num(1), text("abc"), text("abc\xff"), {Type: 5}},
	}
	f := wide(5)
	for i := range 5 {
		for _, a := range bad[i] {
			one := slices.Clone(good)
			one[i] = a
			want := plainFits(f, one)
			if want == api.OK {
				t.Fatal(one, "fits")
			}
			fitting(t, f, good, one, want)
			fitting(t, f, good, append(slices.Clone(one), null()), api.ErrArg)
			fitting(t, f, good, one[:4], api.ErrArg)
			for j := i + 1; j < 5; j++ {
				for _, b := range bad[j] {
					two := slices.Clone(one)
					two[j] = b
					fitting(t, f, good, two, want)
				}
			}
			f := wide(5)
			f.Most = 0
			if got := table.Fits(f, one); got != api.ErrArg {
				t.Errorf("a form that can't be: %v", got)
			}
			f.Keys[0].Unique = false
			if got := table.Fits(f, one[:1]); got != api.ErrPrimary {
				t.Errorf("a form that can't be: %v", got)
			}
		}
	}
}

// P8.1: rows at random.
func TestRandomRows(t *testing.T) {
	r := rand.New(rand.NewSource(82))
	values := []api.Value{null(), num(1), num(2), dec(1), dec(2), text(""), text("a"), text("aé"), text("abcd"), text("abcde"), text("\xff"), truth(0), truth(1), truth(2), {Type: 5}}
	good := row(num(1), text("abcd"), null(), truth(1), text("é"))
	for range 20000 {
		x := slices.Clone(good)
		for range r.Intn(4) {
			x[r.Intn(5)] = values[r.Intn(len(values))]
		}
		f := wide(5)
		fitting(t, f, good, x, plainFits(f, x))
	}
}
