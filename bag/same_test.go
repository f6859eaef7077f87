package bag_test

import (
	"math/rand"
	"slices"
	"testing"

	"lockstep/api"
	"lockstep/bag"
	"lockstep/value"
)

// loose is values that can't be, or hold what their types do not name, and some that can be: of each pair that stands together the one is the same as the other one.
func loose() []api.Value {
	return []api.Value{
		{}, {Type: api.Null, Int: 5, Text: "x"},
		num(1), {Type: api.BigInt, Int: 1, Text: "x"},
		dec(10000), {Type: api.Dec, Int: 10000, Text: "y"},
		text("a"), {Type: api.Text, Text: "a", Int: 7},
		truth(1), {Type: api.Bool, Int: 1, Text: "z"},
		truth(7), {Type: api.Bool, Int: 7, Text: "z"},
		text("\xff"), {Type: api.Text, Text: "\xff", Int: -1},
		{Type: 9, Int: 1, Text: "x"}, {Type: 9, Int: 1, Text: "x"},
		{Type: 9, Int: 1, Text: "y"}, {Type: 9, Int: 1, Text: "y"},
		{Type: 9, Int: 2, Text: "x"}, {Type: 9, Int: 2, Text: "x"},
		{Type: -1, Int: 1}, {Type: -1, Int: 1},
	}
}

// sorted checks what Sorted answers, and that nothing else is touched.
func sorted(t *testing.T, d api.Data) api.Data {
	t.Helper()
	d = withRoom(d)
	before := withRoom(d)
	got := bag.Sorted(d)
	if !untouched(d, before) {
		t.Error("what was handed in has changed:", d)
	}
	apart(t, "Sorted", got, d)
	if len(got) != len(d) {
		t.Fatal(got, d)
	}
	for i, l := range got {
		want := slices.Clone(d[i])
		slices.SortStableFunc(want, value.Rows)
		if !slices.EqualFunc(l, want, func(a, b api.Row) bool { return value.Rows(a, b) == 0 }) {
			t.Errorf("Sorted of %v: %v", d[i], l)
		}
	}
	return got
}

// P13.1: Sorted is each list in the order of value.Rows, without what values' types do not name.
func TestSorted(t *testing.T) {
	got := sorted(t, data("2, 1; 1, NULL; 1, 5; NULL, 9; 1, NULL; 1.0, 2; 'b', 1; FALSE, 1; 'a', 2", "", "3; 1, 2; 1; 2"))
	for i, want := range []string{"NULL, 9; 1, NULL; 1, NULL; 1, 5; 1.0, 2; 2, 1; 'a', 2; 'b', 1; FALSE, 1", "", "1; 1, 2; 2; 3"} {
		if told(got[i]) != want {
			t.Errorf("%s, not %s", told(got[i]), want)
		}
	}
	if len(bag.Sorted(nil)) != 0 || len(bag.Sorted(api.Data{})) != 0 {
		t.Error("none")
	}
	if got := sorted(t, api.Data{nil, {}, {nil, {}}}); len(got) != 3 || len(got[2]) != 2 {
		t.Error(got)
	}
	l := loose()
	for i := 0; i < len(l); i += 2 {
		for _, v := range l[i : i+2] {
			got := sorted(t, api.Data{{{v}}})[0][0][0]
			if want := l[i]; got != want {
				t.Errorf("Sorted of %+v: %+v", v, got)
			}
		}
	}
}

func same(t *testing.T, a, b api.Data, want bool) {
	t.Helper()
	a, b = withRoom(a), withRoom(b)
	aa, bb := withRoom(a), withRoom(b)
	if bag.Same(a, b) != want || bag.Same(b, a) != want {
		t.Errorf("Same of %v and %v: not %v", a, b, want)
	}
	if !untouched(a, aa) || !untouched(b, bb) {
		t.Error("what was handed in has changed:", a, b)
	}
}

// P13.1: Same goes by how often rows are there, not by their order.
func TestSame(t *testing.T) {
	for _, x := range []struct {
		a, b api.Data
		want bool
	}{
		{nil, nil, true}, {nil, api.Data{}, true}, {nil, api.Data{nil}, false}, {api.Data{nil}, api.Data{{}}, true}, {api.Data{nil}, api.Data{nil, nil}, false},
		{api.Data{{nil}}, api.Data{{{}}}, true}, {api.Data{{nil}}, api.Data{nil}, false}, {api.Data{{nil}}, api.Data{{nil, nil}}, false},
		{data("1; 2; 3"), data("3; 1; 2"), true}, {data("1; 2; 3"), data("3; 1"), false}, {data("1; 2; 3"), data("3; 1; 4"), false},
		{data("1; 1; 2"), data("1; 2; 1"), true}, {data("1; 1; 2"), data("1; 2; 2"), false}, {data("1; 1"), data("1"), false},
		{data("1, 2"), data("2, 1"), false}, {data("1, 2"), data("1"), false}, {data("1", "2"), data("2", "1"), false}, {data("1", "2"), data("1; 2", ""), false},
		{data("1"), data("1.0"), false}, {data("NULL"), data("0"), false}, {data("''"), data("NULL"), false}, {data("1"), data("TRUE"), false}, {data("NULL; 1; NULL"), data("1; NULL; NULL"), true},
	} {
		same(t, x.a, x.b, x.want)
	}
	l := loose()
	for i := range l {
		for k := range l {
			same(t, api.Data{{{l[i], num(1)}, {num(1)}}}, api.Data{{{num(1)}, {l[k], num(1)}}}, i/2 == k/2)
		}
	}
}

// P13.1: Same and Sorted of tables at random: in another order they are the same; with one row other, one more or one less they are not.
func TestSameAtRandom(t *testing.T) {
	r := rand.New(rand.NewSource(132))
	l := loose()
	for range 3000 {
		var d api.Data
		for range r.Intn(4) {
			var list []api.Row
			for range r.Intn(6) {
				var row api.Row
				for range r.Intn(3) {
					row = append(row, l[r.Intn(len(l))])
				}
				list = append(list, row)
			}
			d = append(d, list)
		}
		other := withRoom(d)
		for _, list := range other {
			r.Shuffle(len(list), func(i, k int) { list[i], list[k] = list[k], list[i] })
			for _, row := range list {
				for i, v := range row {
					row[i] = l[slices.Index(l, v)^1]
				}
			}
		}
		same(t, d, other, true)
		if one, two := sorted(t, d), sorted(t, other); !slices.EqualFunc(one, two, func(a, b []api.Row) bool {
			return slices.EqualFunc(a, b, func(a, b api.Row) bool { return slices.Equal(a, b) })
		}) {
			t.Fatalf("Sorted: %v, %v", one, two)
		}
		if len(other) == 0 {
			continue
		}
		i := r.Intn(len(other))
		list := slices.Clone(other[i])
		switch k := r.Intn(max(len(list), 1)); {
		case len(list) == 0 || r.Intn(3) == 0:
			list = append(list, api.Row{text("new")})
		case r.Intn(2) == 0:
			list = slices.Delete(list, k, k+1)
		default:
			list[k] = append(slices.Clone(list[k]), null())
		}
		other[i] = list
		same(t, d, other, false)
	}
}
