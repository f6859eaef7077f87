package table_test

import (
	"math"
	"math/rand"
	"slices"
	"strconv"
	"strings"
	"testing"

	"lockstep/api"
	"lockstep/table"
	"lockstep/value"
)

type wrong struct {
	is  bool
	why api.Errno
}

func first(l []wrong) api.Errno {
	for _, w := range l {
		if w.is {
			return w.why
		}
	}
	return api.OK
}

func noName(s string) bool {
	bad := len(s) == 0 || len(s) > 32
	for _, c := range s {
		bad = bad || c == 0
	}
	return bad || string([]rune(s)) != s
}

// plainCheck is the chapter's list, from its beginning to its end.
func plainCheck(f api.Table) api.Errno {
	l := []wrong{{noName(f.Name), api.ErrName}, {len(f.Cols) > 16, api.ErrLong}, {len(f.Cols) == 0, api.ErrArg}}
	seen := map[string]int{}
	for _, c := range f.Cols {
		isText := c.Type == api.Text
		l = append(l,
			wrong{noName(c.Name) || seen["col "+c.Name] > 0, api.ErrName},
			wrong{c.Type != api.BigInt && c.Type != api.Dec && !isText && c.Type != api.Bool, api.ErrType},
			wrong{isText && (c.Most < 1 || c.Most > 4096) || !isText && c.Most != 0, api.ErrArg})
		seen["col "+c.Name]++
	}
	l = append(l, wrong{len(f.Keys) > 16, api.ErrLong}, wrong{len(f.Keys) == 0, api.ErrPrimary})
	for _, k := range f.Keys {
		is := map[int]int{}
		for c := range f.Cols {
			is[c] = 1
		}
		outside := len(k.Cols) == 0 || len(k.Cols) > 4
		for _, c := range k.Cols {
			outside = outside || is[c] != 1
			is[c] = 2
		}
		l = append(l, wrong{noName(k.Name) || seen["key "+k.Name] > 0, api.ErrName}, wrong{outside, api.ErrArg})
		seen["key "+k.Name]++
	}
	if why := first(l); why != api.OK {
		return why
	}
	open, part := !f.Keys[0].Unique, f.Part < 0
	for _, c := range f.Keys[0].Cols {
		open = open || !f.Cols[c].NotNull
		part = part || c == f.Part
	}
	return first([]wrong{{open, api.ErrPrimary}, {!part, api.ErrArg}, {f.Most < 1 || f.Most > 4096, api.ErrArg}})
}

// plainFits is what the chapter says of a row of a form that can be.
func plainFits(f api.Table, r api.Row) api.Errno {
	if len(r) != len(f.Cols) {
		return api.ErrArg
	}
	var l []wrong
	for i, c := range f.Cols {
		v := r[i]
		l = append(l,
			wrong{value.Check(v) != api.OK, value.Check(v)},
			wrong{v.Type == api.Null && c.NotNull, api.ErrNull},
			wrong{v.Type != api.Null && v.Type != c.Type, api.ErrType},
			wrong{v.Type == api.Text && len(v.Text) > c.Most, api.ErrLong})
	}
	return first(l)
}

// refused holds Check, and what all who ask it answer, against one error.
func refused(t *testing.T, f api.Table, want api.Errno, note string) {
	t.Helper()
	if got := table.Check(f); got != want || got != plainCheck(f) {
		t.Errorf("Check, %s: %v, not %v (%v)", note, got, want, plainCheck(f))
	}
	x, why := table.New(f)
	if why != want || (x != nil) != (want == api.OK) {
		t.Errorf("New, %s: %v %v, not %v", note, x, why, want)
	}
	x, why = table.Load(f, nil, 1)
	if why != want || (x != nil) != (want == api.OK) {
		t.Errorf("Load, %s: %v %v, not %v", note, x, why, want)
	}
	r := make(api.Row, len(f.Cols)+1)
	if want == api.OK {
		want = api.ErrArg
	}
	if got := table.Fits(f, r); got != want {
		t.Errorf("Fits, %s: %v, not %v", note, got, want)
	}
	if x, why := table.Load(f, []api.Kept{{ID: 0, Row: r}}, 0); x != nil || why != want && (want != api.ErrArg || why != api.ErrRow) {
		t.Errorf("Load of what is wrong, too, %s: %v", note, why)
	}
}

// P8.1: names of tables, columns and keys.
func TestNames(t *testing.T) {
	for s, want := range map[string]api.Errno{
		"": api.ErrName, "a": api.OK, strings.Repeat("x", 31): api.OK, strings.Repeat("x", 32): api.OK, strings.Repeat("x", 33): api.ErrName,
		strings.Repeat("é", 16): api.OK, strings.Repeat("é", 16) + "x": api.ErrName, strings.Repeat("é", 17): api.ErrName, strings.Repeat("€", 11): api.ErrName,
		strings.Repeat("x", 5000): api.ErrName,
		"\xff":                    api.ErrName, "a\xff": api.ErrName, "\xc3": api.ErrName, "\xc0\x80": api.ErrName, "\xed\xa0\x80": api.ErrName, "\xf4\x90\x80\x80": api.ErrName,
		"\x00": api.ErrName, "a\x00": api.ErrName, "\x00a": api.ErrName, strings.Repeat("x", 31) + "\x00": api.ErrName,
		" ": api.OK, "\x01": api.OK, "\n": api.OK, "A b": api.OK, `"`: api.OK, "select": api.OK, "\ufffd": api.OK, "\U0010ffff": api.OK, "1": api.OK,
	} {
		f := wide(5)
		f.Name = s
		refused(t, f, want, "a table "+strconv.Quote(s))
		for i := range f.Cols {
			f = wide(5)
			f.Cols[i].Name = s
			w := want
			if s == "a" && i > 0 {
				w = api.ErrName
			}
			refused(t, f, w, "a column "+strconv.Quote(s))
		}
		for i := range f.Keys {
			f = wide(5)
			f.Keys[i].Name = s
			refused(t, f, want, "a key "+strconv.Quote(s))
		}
	}
}

// P8.1: a name that is there twice, of columns and of keys; but a table, a column and a key may have one name.
func TestNamesTwice(t *testing.T) {
	for i := range 5 {
		for j := range 5 {
			f := wide(5)
			f.Cols[i].Name = f.Cols[j].Name
			want := api.ErrName
			if i == j {
				want = api.OK
			}
			refused(t, f, want, "columns twice")
			f = wide(5)
			f.Keys[i].Name = f.Keys[j].Name
			refused(t, f, want, "keys twice")
			f = wide(5)
			f.Cols[i].Name, f.Name = f.Keys[j].Name, f.Keys[j].Name
			refused(t, f, api.OK, "one name for a table, a column and a key")
		}
	}
	f := wide(5)
	f.Cols[1].Name, f.Keys[1].Name = "A", "K0"
	refused(t, f, api.OK, "great letters are others")
}

// columns is a form of so many columns, and keys that all are of the first ones.
func columns(cols, keys, of int) api.Table {
	f := api.Table{Name: "t", Part: -1, Most: 1}
	for i := range cols {
		f.Cols = append(f.Cols, api.Column{Name: "c" + strconv.Itoa(i), Type: api.BigInt + i%4, NotNull: true})
		if i%4 == 2 {
			f.Cols[i].Most = 1
		}
	}
	for i := range keys {
		k := api.Key{Name: "k" + strconv.Itoa(i), Unique: true}
		for c := range of {
			k.Cols = append(k.Cols, c)
		}
		f.Keys = append(f.Keys, k)
	}
	return f
}

// P8.1: how many columns, keys and columns of a key there may be.
func TestHowMany(t *testing.T) {
	for cols, want := range map[int]api.Errno{0: api.ErrArg, 1: api.OK, 2: api.OK, 15: api.OK, 16: api.OK, 17: api.ErrLong, 300: api.ErrLong} {
		refused(t, columns(cols, 1, 1), want, strconv.Itoa(cols)+" columns")
	}
	for keys, want := range map[int]api.Errno{0: api.ErrPrimary, 1: api.OK, 2: api.OK, 15: api.OK, 16: api.OK, 17: api.ErrLong, 300: api.ErrLong} {
		refused(t, columns(2, keys, 2), want, strconv.Itoa(keys)+" keys")
	}
	for of, want := range map[int]api.Errno{0: api.ErrArg, 1: api.OK, 2: api.OK, 3: api.OK, 4: api.OK, 5: api.ErrArg, 16: api.ErrArg} {
		refused(t, columns(16, 16, of), want, strconv.Itoa(of)+" columns of a key")
	}
	for _, c := range []int{math.MinInt, -1, 5, 6, 16, math.MaxInt} {
		for key := range 6 {
			for i := range wide(5).Keys[key].Cols {
				f := wide(5)
				f.Keys[key].Cols[i] = c
				refused(t, f, api.ErrArg, "a column that is none")
			}
		}
	}
	for key, k := range wide(5).Keys {
		for i := range k.Cols {
			for j := range k.Cols {
				f := wide(5)
				f.Keys[key].Cols[i] = k.Cols[j]
				if i != j {
					refused(t, f, api.ErrArg, "a column twice")
				}
			}
		}
	}
}

// P8.1: Types, and the Most of each.
func TestTypes(t *testing.T) {
	for _, typ := range []int{math.MinInt, -1, 0, 1, 2, 3, 4, 5, 6, 255, math.MaxInt} {
		for _, most := range []int{math.MinInt, -1, 0, 1, 2, 4095, 4096, 4097, math.MaxInt} {
			want := api.OK
			switch {
			case typ < 1 || typ > 4:
				want = api.ErrType
			case typ == 3 && (most < 1 || most > 4096), typ != 3 && most != 0:
				want = api.ErrArg
			}
			for i := range 5 {
				f := wide(5)
				f.Cols[i].Type, f.Cols[i].Most = typ, most
				refused(t, f, want, "a column of type "+strconv.Itoa(typ)+" and Most "+strconv.Itoa(most))
			}
		}
	}
}

// P8.1: the first key is the primary one: Unique, and none of its columns may be NULL; of others neither is asked.
func TestPrimary(t *testing.T) {
	for mask := range 1 << 6 {
		f := wide(5)
		want := api.OK
		for i := range f.Keys {
			f.Keys[i].Unique = mask>>i&1 == 1
		}
		if mask&1 == 0 {
			want = api.ErrPrimary
		}
		refused(t, f, want, "Unique")
	}
	for mask := range 1 << 5 {
		f := wide(5)
		want := api.OK
		for i := range f.Cols {
			f.Cols[i].NotNull = mask>>i&1 == 1
		}
		if mask&3 != 3 {
			want = api.ErrPrimary
		}
		refused(t, f, want, "NotNull")
	}
}

// P8.1: Part is a column of the first key, or below 0, which is told as -1; Most goes from 1 to MaxRows.
func TestPartAndMost(t *testing.T) {
	for part, want := range map[int]api.Errno{math.MinInt: api.OK, -2: api.OK, -1: api.OK, 0: api.OK, 1: api.OK, 2: api.ErrArg, 3: api.ErrArg, 4: api.ErrArg, 5: api.ErrArg, math.MaxInt: api.ErrArg} {
		f := wide(5)
		f.Part = part
		refused(t, f, want, "Part "+strconv.Itoa(part))
		if want == api.OK {
			x, _ := made(t, f)
			y, _ := table.Load(f, nil, 7)
			if x.Form().Part != max(part, -1) || y.Form().Part != max(part, -1) || x.Clone().Form().Part != max(part, -1) {
				t.Errorf("Part %d is told as %d", part, x.Form().Part)
			}
		}
	}
	for most, want := range map[int]api.Errno{math.MinInt: api.ErrArg, -1: api.ErrArg, 0: api.ErrArg, 1: api.OK, 2: api.OK, 4095: api.OK, 4096: api.OK, 4097: api.ErrArg, math.MaxInt: api.ErrArg} {
		refused(t, wide(most), want, "Most "+strconv.Itoa(most))
	}
}

// P8.1: of several things that are wrong at once the one is told that stands first in the chapter's list; here all sets of them.
func TestSeveralWrongForms(t *testing.T) {
	type flaw struct {
		why api.Errno
		do  func(f *api.Table)
	}
	col := func(i int, do func(c *api.Column)) func(*api.Table) {
		return func(f *api.Table) {
			if i < len(f.Cols) {
				do(&f.Cols[i])
			}
		}
	}
	key := func(i int, do func(k *api.Key)) func(*api.Table) {
		return func(f *api.Table) {
			if i < len(f.Keys) {
				do(&f.Keys[i])
			}
		}
	}
	flaws := []flaw{
		{api.ErrName, func(f *api.Table) { f.Name = "\xff" }},
		{api.ErrLong, func(f *api.Table) { f.Cols = append(f.Cols, columns(16, 0, 0).Cols...) }},
		{api.ErrName, col(0, func(c *api.Column) { c.Name = "" })},
		{api.ErrType, col(0, func(c *api.Column) { c.Type = 5 })},
		{api.ErrArg, col(0, func(c *api.Column) { c.Most = 1 })},
		{api.ErrName, col(2, func(c *api.Column) { c.Name = "b" })},
		{api.ErrType, col(2, func(c *api.Column) { c.Type = 0 })},
		{api.ErrArg, col(4, func(c *api.Column) { c.Most = 4097 })},
		{api.ErrLong, func(f *api.Table) { f.Keys = append(f.Keys, columns(1, 16, 1).Keys...) }},
		{api.ErrName, key(0, func(k *api.Key) { k.Name = strings.Repeat("x", 33) })},
		{api.ErrArg, key(0, func(k *api.Key) { k.Cols = append(k.Cols, k.Cols[0]) })},
		{api.ErrName, key(1, func(k *api.Key) { k.Name = "k0" })},
		{api.ErrArg, key(2, func(k *api.Key) { k.Cols = nil })},
		{api.ErrPrimary, key(0, func(k *api.Key) { k.Unique = false })},
		{api.ErrPrimary, col(1, func(c *api.Column) { c.NotNull = false })},
		{api.ErrArg, func(f *api.Table) { f.Part = 4 }},
		{api.ErrArg, func(f *api.Table) { f.Most = 0 }},
	}
	for set := range 1 << len(flaws) {
		f := wide(5)
		want := api.OK
		for i := len(flaws) - 1; i >= 0; i-- {
			if set>>i&1 == 1 {
				flaws[i].do(&f)
				want = flaws[i].why
			}
		}
		if got := table.Check(f); got != want {
			t.Fatalf("flaws %b: %v, not %v", set, got, want)
		}
		if set&0x3ff == 0 || set&^0x3ff == 0 {
			refused(t, f, want, "flaws "+strconv.FormatInt(int64(set), 2))
		}
	}
}

// P8.1: no columns, and no keys, with all else wrong besides.
func TestNoneOfThem(t *testing.T) {
	f := wide(5)
	f.Cols, f.Keys, f.Most, f.Part = nil, nil, -1, 3
	refused(t, f, api.ErrArg, "no columns, no keys")
	f.Name = ""
	refused(t, f, api.ErrName, "nothing")
	refused(t, api.Table{}, api.ErrName, "the zero form")
	refused(t, api.Table{Name: "t"}, api.ErrArg, "a name alone")
	f = wide(0)
	f.Keys, f.Part = []api.Key{}, 4
	refused(t, f, api.ErrPrimary, "no keys")
	f.Cols[4].Most = 0
	refused(t, f, api.ErrArg, "no keys, and a column that can't be")
	f.Cols[3].Type = -1
	refused(t, f, api.ErrType, "no keys, and columns that can't be")
	f.Cols = []api.Column{}
	f.Keys = columns(1, 17, 1).Keys
	refused(t, f, api.ErrArg, "no columns, too many keys")
}

// P8.1: forms at random, held against the chapter's list.
func TestRandomForms(t *testing.T) {
	r := rand.New(rand.NewSource(81))
	pick := func(l ...int) int { return l[r.Intn(len(l))] }
	told := map[api.Errno]int{}
	for range 60000 {
		f := columns(pick(1, 2, 3, 5, 16), pick(1, 1, 2, 3, 16), 1)
		for range r.Intn(4) {
			c, k := &f.Cols[r.Intn(len(f.Cols))], &f.Keys[r.Intn(len(f.Keys))]
			switch r.Intn(10) {
			case 0:
				c.Name = "c" + strconv.Itoa(r.Intn(6))
			case 1:
				c.Type = r.Intn(6)
			case 2:
				c.Most = pick(-1, 0, 1, 4096, 4097)
			case 3:
				c.NotNull = false
			case 4:
				k.Name = "k" + strconv.Itoa(r.Intn(6))
			case 5:
				k.Cols = append(k.Cols, r.Intn(len(f.Cols)+1))
			case 6:
				k.Cols = r.Perm(len(f.Cols))[:r.Intn(len(f.Cols)+1)]
			case 7:
				k.Unique = false
			case 8:
				f.Part = r.Intn(6) - 2
			case 9:
				f.Most = pick(-1, 0, 1, 4096, 4097)
			}
		}
		want := plainCheck(f)
		told[want]++
		if got := table.Check(f); got != want {
			t.Fatalf("%+v: %v, not %v", f, got, want)
		}
	}
	for _, why := range []api.Errno{api.OK, api.ErrName, api.ErrType, api.ErrArg, api.ErrPrimary} {
		if told[why] < 100 {
			t.Errorf("%v came %d times", why, told[why])
		}
	}
}

// P8.1: Form is what was handed in.
func TestForm(t *testing.T) {
	for _, f := range []api.Table{people(1), people(4096), wide(7), columns(16, 16, 4), columns(1, 1, 1)} {
		x, _ := made(t, f)
		y, _ := table.Load(f, nil, 9)
		for _, got := range []api.Table{x.Form(), y.Form(), x.Clone().Form()} {
			if !sameForm(got, f) {
				t.Errorf("Form: %v, not %v", got, f)
			}
		}
		if x.Len() != 0 || x.Next() != 1 || x.Mark() != 0 || len(x.Rows()) != 0 {
			t.Error("a new table has something")
		}
	}
}

func sameForm(a, b api.Table) bool {
	return a.Name == b.Name && slices.Equal(a.Cols, b.Cols) && a.Part == b.Part && a.Most == b.Most &&
		slices.EqualFunc(a.Keys, b.Keys, func(a, b api.Key) bool {
			return a.Name == b.Name && a.Unique == b.Unique && slices.Equal(a.Cols, b.Cols)
		})
}
