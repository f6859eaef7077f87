package snapshot_test

import (
	"bytes"
	"fmt"
	"math/rand"
	"reflect"
	"strings"
	"testing"

	"lockstep/api"
	"lockstep/snapshot"
	"lockstep/table"
)

func someName(r *rand.Rand) string {
	return []string{"a", "b", "c", "more", "é", "lockstep snapshot", " ", "x\ty", strings.Repeat("n", 32)}[r.Intn(9)] + []string{"", "1", "2"}[r.Intn(3)]
}

// someValue is a value of a type, now and then of another one, or one that can't be, or with what its type does not name.
func someValue(r *rand.Rand, typ int) api.Value {
	if r.Intn(80) == 0 {
		typ = r.Intn(7)
	}
	v := api.Value{Type: typ}
	switch {
	case r.Intn(40) == 0:
		v = null()
	case typ == api.Text:
		v.Text = []string{"", "a", "b", "ab", "\x00", "é", "\x00\x00", "more"}[r.Intn(8)]
	case typ == api.Bool:
		v.Int = int64(r.Intn(2))
	default:
		v.Int = int64(r.Uint64()) >> r.Intn(64)
	}
	if r.Intn(30) == 0 {
		v.Int ^= 1
	}
	if r.Intn(30) == 0 {
		v.Text += "x"
	}
	return v
}

// someForm is a table's form, most of them such as can be.
func someForm(r *rand.Rand) api.Table {
	f := api.Table{Name: someName(r), Part: r.Intn(4) - 3, Most: 1 + r.Intn(20)}
	for i := range 1 + r.Intn(6) {
		c := api.Column{Name: fmt.Sprint("c", i), Type: 1 + r.Intn(4), NotNull: i == 0 || r.Intn(2) == 0}
		if c.Type == api.Text {
			c.Most = 1 + r.Intn(9)
		}
		f.Cols = append(f.Cols, c)
	}
	for i := range 1 + r.Intn(3) {
		k := api.Key{Name: fmt.Sprint("k", i), Unique: i == 0 || r.Intn(3) == 0, Cols: []int{0}}
		if n := r.Intn(len(f.Cols)); i > 0 || f.Cols[n].NotNull {
			k.Cols = r.Perm(n + 1)[:min(n+1, 1+r.Intn(4))]
		}
		f.Keys = append(f.Keys, k)
	}
	for _, c := range f.Keys[0].Cols {
		f.Cols[c].NotNull = true
	}
	return f
}

// someStored is a table as it stands, most of them such as can be: rows that do not fit are left out, but for now and then.
func someStored(r *rand.Rand) api.Stored {
	x := api.Stored{Form: someForm(r)}
	id := uint64(0)
	if r.Intn(4) == 0 {
		id = r.Uint64() >> r.Intn(64) / 2
	}
	for range r.Intn(8) {
		id += 1 + uint64(r.Intn(3))
		k := api.Kept{ID: id}
		for _, c := range x.Form.Cols {
			k.Row = append(k.Row, someValue(r, c.Type))
		}
		with := append(x.Rows[:len(x.Rows):len(x.Rows)], k)
		if _, why := table.Load(x.Form, with, id+1); why == api.OK || r.Intn(20) == 0 {
			x.Rows = with
		}
	}
	x.Next = id + 1 + uint64(r.Intn(3))
	if r.Intn(60) == 0 {
		x.Next = []uint64{0, id, r.Uint64()}[r.Intn(3)]
	}
	return x
}

// someSnap is a snapshot, most of them such as can be.
func someSnap(r *rand.Rand) api.Snap {
	s := api.Snap{No: r.Uint64() >> (1 + r.Intn(63)), More: make([]byte, r.Intn(20))}
	r.Read(s.More)
	if r.Intn(40) == 0 {
		s.No = r.Uint64()
	}
	for range r.Intn(4) {
		s.Tables = append(s.Tables, someStored(r))
	}
	return s
}

// whyNot is the error with which a snapshot can't be, of all that are not long.
func whyNot(s api.Snap) api.Errno {
	if s.No >= 1<<63 {
		return api.ErrArg
	}
	names := map[string]int{}
	for _, x := range s.Tables {
		if _, why := table.Load(x.Form, x.Rows, x.Next); why != api.OK {
			return why
		}
		if names[x.Form.Name]++; names[x.Form.Name] == 2 {
			return api.ErrName
		}
	}
	return api.OK
}

// stuffed is the same snapshot otherwise told: values with what their types do not name, Part of another number below 0.
func stuffed(r *rand.Rand, s api.Snap) api.Snap {
	s = plain(s)
	for i := range s.Tables {
		if s.Tables[i].Form.Part < 0 {
			s.Tables[i].Form.Part = -1 - r.Intn(1<<40)
		}
		for _, k := range s.Tables[i].Rows {
			for j, v := range k.Row {
				if v.Type == api.Null || v.Type == api.Text {
					k.Row[j].Int = int64(r.Uint64())
				}
				if v.Type == api.Null || v.Type == api.BigInt || v.Type == api.Dec || v.Type == api.Bool {
					k.Row[j].Text = string([]byte{byte(r.Intn(256))})
				}
			}
		}
	}
	return s
}

// P12.1, P12.4: snapshots at random: Encode's error or bytes, there and back, and the same otherwise told has the same bytes.
func TestThereAndBack(t *testing.T) {
	t.Parallel()
	r := rand.New(rand.NewSource(9))
	came := map[api.Errno]int{}
	for range 20000 {
		s := someSnap(r)
		b, why := snapshot.Encode(s)
		if want := whyNot(s); why != want {
			t.Fatalf("%v, not %v of %s", why, want, told(s))
		}
		came[why]++
		other := stuffed(r, s)
		sameness(t, s, other, true)
		c, whyOther := snapshot.Encode(other)
		if !bytes.Equal(b, c) || why != whyOther {
			t.Fatalf("%v and %v of %s\nand\n%s", why, whyOther, told(s), told(other))
		}
		if why != api.OK {
			if len(b) > 0 {
				t.Fatalf("%x of %s", b, told(s))
			}
			continue
		}
		d, why := snapshot.Decode(b)
		if !bytes.Equal(b, bytesOf(s)) || why != api.OK || told(d) != told(plain(s)) {
			t.Fatalf("%v %s\nnot\n%s", why, told(d), told(s))
		}
		sameness(t, s, d, true)
	}
	for _, why := range []api.Errno{api.ErrArg, api.ErrName, api.ErrRow, api.ErrType} {
		if came[why] < 50 {
			t.Errorf("%v came but %d times", why, came[why])
		}
	}
	if came[api.OK] < 10000 {
		t.Error(came)
	}
}

// P12.4: two snapshots are the same just if they have the same bytes.
func TestSameJustIfTheBytesAre(t *testing.T) {
	t.Parallel()
	r := rand.New(rand.NewSource(10))
	var l []api.Snap
	for _, s := range samples() {
		l = append(l, s, plain(s), stuffed(r, s))
	}
	for len(l) < 400 {
		s := plain(l[r.Intn(len(l))])
		bendSnap(r, &s)
		if whyNot(s) == api.OK {
			l = append(l, s)
		}
	}
	same := 0
	for i := range l {
		for j := range l {
			want := modelSame(l[i], l[j])
			sameness(t, l[i], l[j], want, i, j)
			if want && i != j {
				same++
			}
		}
	}
	if same < 100 {
		t.Error(same)
	}
}

// bendSnap changes a thing of a snapshot a little, or nothing.
func bendSnap(r *rand.Rand, s *api.Snap) {
	if len(s.Tables) == 0 || r.Intn(6) == 0 {
		s.No = uint64(r.Intn(10))
		s.More = append(s.More, []byte("xy")[:r.Intn(2)]...)
		return
	}
	x := &s.Tables[r.Intn(len(s.Tables))]
	switch r.Intn(7) {
	case 0:
		x.Next += uint64(r.Intn(2))
	case 1:
		x.Form.Part = r.Intn(4) - 3
	case 2:
		x.Form.Name = someName(r)
	case 3:
		x.Form.Most = 90 + r.Intn(3)
	case 4:
		k := &x.Form.Keys[r.Intn(len(x.Form.Keys))]
		k.Unique = !k.Unique
	case 5:
		c := &x.Form.Cols[r.Intn(len(x.Form.Cols))]
		c.NotNull = !c.NotNull
	case 6:
		if len(x.Rows) > 0 {
			k := x.Rows[r.Intn(len(x.Rows))]
			at := r.Intn(len(k.Row))
			k.Row[at] = someValue(r, k.Row[at].Type)
		}
	}
}

// P12.4: a snapshot of tables as they stand, brought back, is tables that tell the same.
func TestTablesAgain(t *testing.T) {
	r := rand.New(rand.NewSource(11))
	for range 200 {
		x, why := table.New(wide("w", -1))
		all(t, why)
		for range r.Intn(60) {
			var v api.Row
			for _, c := range wide("w", -1).Cols {
				v = append(v, someValue(r, c.Type))
			}
			switch id := uint64(r.Intn(20)); r.Intn(4) {
			case 0:
				x.Delete(id)
			case 1:
				x.Update(id, v)
			default:
				x.Insert(v)
			}
		}
		b := encoded(t, api.Snap{No: 1, Tables: []api.Stored{{Form: x.Form(), Rows: x.Rows(), Next: x.Next()}}})
		d, why := snapshot.Decode(b)
		all(t, why)
		y, why := table.Load(d.Tables[0].Form, d.Tables[0].Rows, d.Tables[0].Next)
		if why != api.OK || !reflect.DeepEqual(y.Rows(), x.Rows()) || y.Next() != x.Next() || !reflect.DeepEqual(y.Form(), x.Form()) {
			t.Fatal(why)
		}
	}
}
