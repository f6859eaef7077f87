package snapshot_test

import (
	"bytes"
	"encoding/hex"
	"fmt"
	"math"
	"slices"
	"strings"
	"testing"

	"lockstep/api"
	"lockstep/snapshot"
)

// P12.1: the bytes of one snapshot, written out by hand.
func TestEncodeByHand(t *testing.T) {
	number := func(high string) string { return "02" + high + "01" }
	text := func(s string) string { return "03" + hex.EncodeToString([]byte(s)) + "0000" }
	// ten thousand is 2710, and 2^79 stands ahead
	one, three, four, five, seven := number("80000000000000002710"), number("80000000000000007530"), number("80000000000000009c40"), number("8000000000000000c350"), number("80000000000000011170")
	nought, less, two := number("80000000000000000000"), number("7fffffffffffffffd8f0"), number("80000000000000004e20")
	want, err := hex.DecodeString(strings.Join([]string{
		text("lockstep snapshot"), seven, one, "00",
		text("p"), less, three, one, one, four, one, "00",
		text("id"), one, nought, "0401", "00",
		text("a"), "0401", nought, "00",
		two, "00",
		five, "00",
		text("more"), one, "00",
		hex.EncodeToString([]byte("x")),
	}, ""))
	if err != nil {
		t.Fatal(err)
	}
	if got := encoded(t, small()); !bytes.Equal(got, sealed(want)) {
		t.Errorf("%x\nnot\n%x", got, sealed(want))
	}
}

// P12.1: the bytes of each of the samples.
func TestEncodeSamples(t *testing.T) {
	for what, s := range samples() {
		if got, want := encoded(t, s), bytesOf(s); !bytes.Equal(got, want) {
			t.Errorf("%s: %s\nnot\n%s", what, short(got), short(want))
		}
	}
}

// cannot: Encode refuses a snapshot with an error, and tells no bytes.
func cannot(t *testing.T, s api.Snap, want api.Errno, what ...any) {
	t.Helper()
	if b, why := snapshot.Encode(s); len(b) != 0 || why != want {
		t.Errorf("%v: %d bytes, %v, not %v", what, len(b), why, want)
	}
}

// P12.1: No at 2^63 - 1 and above.
func TestEncodeNo(t *testing.T) {
	for _, no := range []uint64{0, 1, 1<<63 - 2, 1<<63 - 1} {
		s := small()
		s.No = no
		if b := encoded(t, s); !bytes.Equal(b, bytesOf(s)) {
			t.Errorf("%d: %x", no, b)
		}
	}
	for _, no := range []uint64{1 << 63, 1<<63 + 1, 1<<64 - 1} {
		s := small()
		s.No = no
		cannot(t, s, api.ErrArg, no)
	}
}

// many is so many tables of other names.
func many(n int) []api.Stored {
	var l []api.Stored
	for i := range n {
		l = append(l, api.Stored{Form: oneColumn(fmt.Sprint("t", i), 3), Rows: []api.Kept{kept(uint64(i)+1, num(int64(i)))}, Next: 99})
	}
	return l
}

// P12.1: 64 tables, and more; More of 2^20 bytes, and more.
func TestEncodeMany(t *testing.T) {
	more := bytes.Repeat([]byte{7}, 1<<20)
	for _, s := range []api.Snap{{Tables: many(63)}, {Tables: many(64)}, {More: more}, {More: more[1:]}, {Tables: many(64), More: more}} {
		b := encoded(t, s)
		if !bytes.Equal(b, bytesOf(s)) {
			t.Errorf("%s", short(b))
		}
		if d, why := snapshot.Decode(b); why != api.OK || told(d) != told(s) {
			t.Errorf("%v", why)
		}
	}
	over := append(slices.Clone(more), 7)
	for _, s := range []api.Snap{{Tables: many(65)}, {Tables: many(66)}, {More: over}, {More: append(over, over...)}, {Tables: many(65), More: over}} {
		cannot(t, s, api.ErrLong, len(s.Tables), len(s.More))
		refused(t, bytesOf(s), len(s.Tables), len(s.More))
	}
}

// flawedTables are tables that table.Load refuses, with its error.
func flawedTables() map[string]struct {
	table api.Stored
	why   api.Errno
} {
	type flawed = struct {
		table api.Stored
		why   api.Errno
	}
	form := func(bend func(f *api.Table)) api.Stored {
		f := people(2)
		bend(&f)
		return api.Stored{Form: f, Next: 1}
	}
	rows := func(next uint64, l ...api.Kept) api.Stored { return api.Stored{Form: people(2), Rows: l, Next: next} }
	a, b, c := kept(1, num(1), text("a")), kept(2, num(2), text("b")), kept(3, num(3), null())
	return map[string]flawed{
		"no name":         {form(func(f *api.Table) { f.Name = "" }), api.ErrName},
		"a long name":     {form(func(f *api.Table) { f.Name = strings.Repeat("n", 33) }), api.ErrName},
		"a column twice":  {form(func(f *api.Table) { f.Cols[1].Name = "id" }), api.ErrName},
		"no columns":      {form(func(f *api.Table) { f.Cols = nil }), api.ErrArg},
		"17 columns":      {form(func(f *api.Table) { f.Cols = make([]api.Column, 17) }), api.ErrLong},
		"no type":         {form(func(f *api.Table) { f.Cols[0].Type = 0 }), api.ErrType},
		"a type 5":        {form(func(f *api.Table) { f.Cols[0].Type = 5 }), api.ErrType},
		"a column's most": {form(func(f *api.Table) { f.Cols[1].Most = 4097 }), api.ErrArg},
		"a number's most": {form(func(f *api.Table) { f.Cols[0].Most = 1 }), api.ErrArg},
		"17 keys":         {form(func(f *api.Table) { f.Keys = make([]api.Key, 17) }), api.ErrLong},
		"no keys":         {form(func(f *api.Table) { f.Keys = nil }), api.ErrPrimary},
		"a key twice":     {form(func(f *api.Table) { f.Keys[1].Name = "primary" }), api.ErrName},
		"a key of none":   {form(func(f *api.Table) { f.Keys[1].Cols = nil }), api.ErrArg},
		"a key of 2":      {form(func(f *api.Table) { f.Keys[1].Cols = []int{2} }), api.ErrArg},
		"a key of -1":     {form(func(f *api.Table) { f.Keys[1].Cols = []int{-1} }), api.ErrArg},
		"no primary":      {form(func(f *api.Table) { f.Keys[0].Unique = false }), api.ErrPrimary},
		"a null primary":  {form(func(f *api.Table) { f.Cols[0].NotNull = false }), api.ErrPrimary},
		"a part":          {form(func(f *api.Table) { f.Part = 1 }), api.ErrArg},
		"most 0":          {form(func(f *api.Table) { f.Most = 0 }), api.ErrArg},
		"most 4097":       {form(func(f *api.Table) { f.Most = 4097 }), api.ErrArg},
		"most below 0":    {form(func(f *api.Table) { f.Most = math.MinInt }), api.ErrArg},
		"too many rows":   {rows(4, a, b, c), api.ErrFull},
		"a number 0":      {rows(2, kept(0, a.Row...)), api.ErrRow},
		"falling":         {rows(4, b, a), api.ErrRow},
		"a number twice":  {rows(4, a, kept(1, b.Row...)), api.ErrRow},
		"next":            {rows(2, a, b), api.ErrRow},
		"next 0":          {rows(0), api.ErrRow},
		"a short row":     {rows(3, a, kept(2, num(2))), api.ErrArg},
		"a long row":      {rows(3, a, kept(2, num(2), null(), null())), api.ErrArg},
		"a row of 17":     {rows(3, kept(2, make([]api.Value, 17)...)), api.ErrArg},
		"a value":         {rows(3, kept(2, num(2), api.Value{Type: 9})), api.ErrArg},
		"no UTF-8":        {rows(3, kept(2, num(2), text("\xff"))), api.ErrForm},
		"a null":          {rows(3, a, kept(2, null(), text("b"))), api.ErrNull},
		"another type":    {rows(3, a, kept(2, dec(20000), text("b"))), api.ErrType},
		"a long text":     {rows(3, a, kept(2, num(2), text("abcdef"))), api.ErrLong},
		"a key there":     {rows(3, a, kept(2, num(1), text("b"))), api.ErrTwice},
		"a name there":    {rows(3, a, kept(2, num(2), text("a"))), api.ErrTwice},
	}
}

// P12.1: each error of table.Load, of the first table and of a later one, ahead of and behind tables that can be.
func TestEncodeTables(t *testing.T) {
	for what, x := range flawedTables() {
		for at := range 3 {
			l := slices.Insert(many(2), at, x.table)
			cannot(t, api.Snap{Tables: l}, x.why, what, at)
			refused(t, bytesOf(api.Snap{Tables: l}), what, at)
		}
		for other, y := range flawedTables() {
			cannot(t, api.Snap{Tables: []api.Stored{x.table, y.table}}, x.why, what, other)
		}
	}
}

// P12.1: two tables of one name, beside one another and not; a name in other letters is another one.
func TestEncodeNames(t *testing.T) {
	for _, x := range []struct {
		names string
		want  api.Errno
	}{{"a a", api.ErrName}, {"a b a", api.ErrName}, {"a b b", api.ErrName}, {"a b c a d", api.ErrName}, {"a b c d", api.OK}, {"a A", api.OK}, {"a aa", api.OK}} {
		var s api.Snap
		for _, name := range strings.Fields(x.names) {
			s.Tables = append(s.Tables, api.Stored{Form: oneColumn(name, 1), Next: 1})
		}
		if b, why := snapshot.Encode(s); why != x.want || (len(b) > 0) != (why == api.OK) {
			t.Errorf("%s: %v, not %v", x.names, why, x.want)
		}
		if _, why := snapshot.Decode(bytesOf(s)); (why == api.OK) != (x.want == api.OK) || why != api.OK && why != api.ErrSnap {
			t.Errorf("%s: %v", x.names, why)
		}
	}
	s := api.Snap{Tables: many(64)}
	s.Tables[63].Form.Name = "t0"
	cannot(t, s, api.ErrName, "the last and the first one")
}

// P12.1: two tables of one name ahead of an error of a table behind, behind one of a table ahead, and behind one of the very table.
func TestEncodeNamesAndTables(t *testing.T) {
	a := api.Stored{Form: oneColumn("a", 1), Next: 1}
	for what, x := range flawedTables() {
		cannot(t, api.Snap{Tables: []api.Stored{a, a, x.table}}, api.ErrName, what)
		cannot(t, api.Snap{Tables: []api.Stored{x.table, a, a}}, x.why, what)
		cannot(t, api.Snap{Tables: []api.Stored{a, x.table, a}}, x.why, what)
		named := a
		named.Form.Name = x.table.Form.Name
		if named.Form.Name == "people" {
			cannot(t, api.Snap{Tables: []api.Stored{named, x.table}}, x.why, what)
			cannot(t, api.Snap{Tables: []api.Stored{named, named, x.table}}, api.ErrName, what)
		}
	}
}

// bulky is a snapshot of just so many bytes, if it is some above 2^22.
func bulky(size int) api.Snap {
	form := people(4096)
	form.Cols[1].Most = 4096
	form.Keys = form.Keys[:1]
	s := api.Snap{Tables: []api.Stored{{Form: form, Next: 5000}}}
	long := strings.Repeat("l", 4096)
	has := len(bytesOf(s))
	// a row has 13 bytes for its number, and 12 + 1 + 4096 + 2 + 1 itself
	for id := uint64(1); has+4125 <= size; id++ {
		s.Tables[0].Rows = append(s.Tables[0].Rows, kept(id, num(int64(id)), text(long)))
		has += 4125
	}
	s.More = make([]byte, size-has)
	return s
}

// P12.1: bytes of just 2^23, and one more.
func TestEncodeBytes(t *testing.T) {
	t.Parallel()
	for size := 1<<23 - 2; size <= 1<<23; size++ {
		s := bulky(size)
		b := encoded(t, s)
		if len(b) != size || !bytes.Equal(b, bytesOf(s)) {
			t.Fatalf("%d: %s", size, short(b))
		}
		if d, why := snapshot.Decode(b); why != api.OK || !snapshot.Same(d, s) || told(d) != told(s) {
			t.Errorf("%d: %v", size, why)
		}
	}
	for _, size := range []int{1<<23 + 1, 1<<23 + 8, 1<<23 + 9, 1<<23 + 4125, 1 << 24} {
		s := bulky(size)
		if b := bytesOf(s); len(b) != size {
			t.Fatal(len(b))
		} else {
			refused(t, b, size)
		}
		cannot(t, s, api.ErrLong, size)
	}
	s := bulky(1<<23 + 4125) // it is the rows alone that are too many, or More
	s.More = nil
	cannot(t, s, api.ErrLong, "without More")
	s = bulky(1<<23 - 1)
	s.More = append(s.More, 1, 2)
	cannot(t, s, api.ErrLong, "by More")
}

// P12.1: all choices of reasons for which a snapshot can't be, each with the one that the chapter names first.
func TestEncodeFirst(t *testing.T) {
	bulk := bulky(1<<23 + 4125).Tables[0] // whose bytes are too many without any More
	flaws := []struct {
		why  api.Errno
		bend func(s *api.Snap)
	}{
		{api.ErrArg, func(s *api.Snap) { s.No = 1 << 63 }},
		{api.ErrLong, func(s *api.Snap) { s.Tables = append(s.Tables, many(65)...) }},
		{api.ErrLong, func(s *api.Snap) { s.More = make([]byte, 1<<20+1) }},
		{api.ErrRow, func(s *api.Snap) { s.Tables[0].Next = 0 }},
		{api.ErrName, func(s *api.Snap) { s.Tables[2].Form.Name = s.Tables[1].Form.Name }},
		{api.ErrFull, func(s *api.Snap) {
			s.Tables[3].Rows = []api.Kept{kept(1, num(1)), kept(2, num(1))}
			s.Tables[3].Next = 3
		}},
		{api.ErrName, func(s *api.Snap) { s.Tables[5].Form.Name = s.Tables[1].Form.Name }},
		{api.ErrLong, func(s *api.Snap) { s.Tables[4] = bulk }},
	}
	for set := range 1 << len(flaws) {
		s := api.Snap{}
		for i := range 6 {
			s.Tables = append(s.Tables, api.Stored{Form: oneColumn(fmt.Sprint("f", i), 1), Next: 1})
		}
		want := api.OK
		for i, x := range flaws {
			if set>>i&1 == 1 {
				x.bend(&s)
				if want == api.OK {
					want = x.why
				}
			}
		}
		b, why := snapshot.Encode(s)
		if why != want || (len(b) == 0) != (why != api.OK) {
			t.Errorf("%b: %v, not %v", set, why, want)
		}
	}
}

// Ends: a snapshot whose bytes would be far too many is refused, and soon.
func TestEncodeHuge(t *testing.T) {
	form := wide("w", -1)
	form.Most = 4096
	form.Keys[0].Cols = []int{0}
	form.Keys = form.Keys[:1]
	long := strings.Repeat("\x00", 4096)
	var rows []api.Kept
	for id := range uint64(4096) {
		rows = append(rows, kept(id+1, num(int64(id)), dec(1), text(long), yes(), null(), null()))
	}
	var s api.Snap
	for i := range 16 {
		f := form
		f.Name = fmt.Sprint("t", i)
		s.Tables = append(s.Tables, api.Stored{Form: f, Rows: rows, Next: 5000})
	}
	cannot(t, s, api.ErrLong, "huge")
	s.Tables[15].Next = 3
	cannot(t, s, api.ErrRow, "huge, and flawed")
}
