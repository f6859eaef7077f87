package snapshot_test

import (
	"bytes"
	"fmt"
	"slices"
	"strings"
	"testing"

	"lockstep/api"
	"lockstep/simfs"
	"lockstep/snapshot"
)

// latest holds what Latest tells against the number of one of the snapshots that `of` makes (below 0: there is none); it changes nothing.
func latest(t *testing.T, f *simfs.FS, name string, want int, what ...any) {
	t.Helper()
	was := stands(f)
	s, is, why := snapshot.Latest(f, name)
	wanted := api.Snap{}
	if want >= 0 {
		wanted = of(uint64(want))
	}
	if why != api.OK || is != (want >= 0) || told(s) != told(wanted) || stands(f) != was {
		t.Errorf("%v: %v %v %s\nnot\n%d on %s", what, is, why, told(s), want, was)
	}
}

// numbered holds what Numbers tells against a list; it changes nothing.
func numbered(t *testing.T, f *simfs.FS, name string, want ...uint64) {
	t.Helper()
	was := stands(f)
	if l, why := snapshot.Numbers(f, name); !slices.Equal(l, want) || why != api.OK || stands(f) != was {
		t.Errorf("%s: %d %v, not %d on %s", name, l, why, want, was)
	}
}

// listed holds a disk's names against a list.
func listed(t *testing.T, f *simfs.FS, want ...string) {
	t.Helper()
	slices.Sort(want)
	if got := f.List(); !slices.Equal(got, want) {
		t.Errorf("%q, not %q", got, want)
	}
}

// The example of the chapter.
func TestExample(t *testing.T) {
	f := disk(t, 10000)
	all(t, snapshot.Save(f, "p0", of(7)))
	listed(t, f, "p0.0000000000000007")
	all(t, snapshot.Save(f, "p0", of(9)))
	listed(t, f, "p0.0000000000000009")
	latest(t, f, "p0", 9)
	numbered(t, f, "p0", 9)
	if b, _ := f.Read("p0.0000000000000009"); !bytes.Equal(b, bytesOf(of(9))) {
		t.Errorf("%q", b)
	}
}

// P12.2: a file's name has sixteen digits to the base 16, of the least No and the greatest.
func TestFileNames(t *testing.T) {
	f := disk(t, 1<<20)
	for no, want := range map[uint64]string{0: "0000000000000000", 1: "0000000000000001", 10: "000000000000000a", 255: "00000000000000ff", 256: "0000000000000100", 0xfedcba987654321: "0fedcba987654321", 1<<63 - 1: "7fffffffffffffff"} {
		name := fmt.Sprint("n", no)
		all(t, snapshot.Save(f, name, api.Snap{No: no}))
		numbered(t, f, name, no)
		if !slices.Contains(f.List(), name+"."+want) {
			t.Errorf("%d: %q", no, f.List())
		}
		if s, is, why := snapshot.Latest(f, name); s.No != no || !is || why != api.OK {
			t.Error(s, is, why)
		}
	}
}

// P12.2, P12.3: names of no bytes, of 40, of 41, of each sign; a disk that is nil goes ahead of these, and these of what is wrong with the snapshot.
func TestNames(t *testing.T) {
	names := map[string]api.Errno{
		"": api.ErrName, "a": api.OK, "_": api.OK, "0": api.OK, "z9_": api.OK, "new": api.OK, "__": api.OK,
		strings.Repeat("x", 39): api.OK, strings.Repeat("x", 40): api.OK, strings.Repeat("x", 41): api.ErrName, strings.Repeat("x", 64): api.ErrName, strings.Repeat("x", 1000): api.ErrName,
		strings.Repeat("é", 20): api.ErrName, "é": api.ErrName, "aé": api.ErrName, "a.0000000000000001": api.ErrName, "a.": api.ErrName, "a b": api.ErrName, "ａ": api.ErrName, "A": api.ErrName, "aB": api.ErrName,
	}
	for c := range 256 {
		can := c >= 'a' && c <= 'z' || c >= '0' && c <= '9' || c == '_'
		for _, s := range []string{string([]byte{byte(c)}), "a" + string([]byte{byte(c)}), string([]byte{byte(c)}) + "a", "ab" + string([]byte{byte(c)}) + "c"} {
			names[s] = api.ErrName
			if can {
				names[s] = api.OK
			}
		}
	}
	for name, want := range names {
		f := disk(t, 1000)
		if l, why := snapshot.Numbers(f, name); len(l) != 0 || why != want {
			t.Errorf("Numbers of %q: %v %v", name, l, why)
		}
		if s, is, why := snapshot.Latest(f, name); told(s) != told(api.Snap{}) || is || why != want {
			t.Errorf("Latest of %q: %v %v", name, is, why)
		}
		bad := of(1)
		bad.No = 1 << 63
		wantBad := want
		if want == api.OK {
			wantBad = api.ErrArg
		}
		if why := snapshot.Save(f, name, bad); why != wantBad || len(f.List()) != 0 || f.Open() != 0 {
			t.Errorf("Save under %q: %v", name, why)
		}
		if why := snapshot.Save(f, name, of(1)); why != want {
			t.Errorf("Save under %q: %v", name, why)
		}
		if want == api.OK {
			listed(t, f, fileOf(name, 1))
			numbered(t, f, name, 1)
			latest(t, f, name, 1)
		} else {
			listed(t, f)
		}
	}
}

// P12.2, P12.3: a disk that is nil, ahead of all else.
func TestNilDisk(t *testing.T) {
	bad := of(1)
	bad.No = 1 << 63
	for _, name := range []string{"p0", "", "A", strings.Repeat("x", 41)} {
		for _, s := range []api.Snap{of(1), bad} {
			if why := snapshot.Save(nil, name, s); why != api.ErrArg {
				t.Errorf("Save under %q: %v", name, why)
			}
		}
		if s, is, why := snapshot.Latest(nil, name); told(s) != told(api.Snap{}) || is || why != api.ErrArg {
			t.Errorf("Latest of %q: %v %v", name, is, why)
		}
		if l, why := snapshot.Numbers(nil, name); len(l) != 0 || why != api.ErrArg {
			t.Errorf("Numbers of %q: %v %v", name, l, why)
		}
	}
	if why := snapshot.Save(&simfs.FS{}, "p0", of(1)); why != api.ErrQuota {
		t.Error("a disk without room is one", why)
	}
}

// P12.2: each error of Encode is Save's, and the disk is left as it is.
func TestSaveRefusesWhatCannotBe(t *testing.T) {
	f := disk(t, 10000)
	all(t, snapshot.Save(f, "p0", of(7)))
	lay(t, f, "p0.new", []byte("left"))
	f.Stop(30)
	was := stands(f)
	try := func(s api.Snap, want api.Errno) {
		t.Helper()
		if why := snapshot.Save(f, "p0", s); why != want || stands(f) != was {
			t.Errorf("%v, not %v: %s", why, want, stands(f))
		}
	}
	for _, x := range flawedTables() {
		try(api.Snap{No: 8, Tables: []api.Stored{x.table}}, x.why)
	}
	try(api.Snap{No: 1 << 63}, api.ErrArg)
	try(api.Snap{No: 8, Tables: many(65)}, api.ErrLong)
	try(api.Snap{No: 8, More: make([]byte, 1<<20+1)}, api.ErrLong)
	try(api.Snap{No: 8, Tables: []api.Stored{many(1)[0], many(1)[0]}}, api.ErrName)
	try(bulky(1<<23+1), api.ErrLong)
}

// others are files that are not those of p0, though they look like it.
func others() []string {
	return []string{
		"p0", "p0.", "p0.1", "p0.000000000000001", "p0.00000000000000001", "p0.000000000000000A", "p0.000000000000000x", "p0.000000000000000g", "p0.+000000000000001", "p0.-000000000000001", "p0.0x00000000000001", "p0.0000_0000_000001", "p0.________________", "p0.................", "p0.old", "p0.news", "p0.new.new", "xp0.0000000000000001", "p00000000000000001", "p0_0000000000000001", "p0.0000000000000001.", "p0..0000000000000001", "p0.p0.0000000000000001", "P0.0000000000000001", "p.0000000000000001", "p00.0000000000000001", "0000000000000001", ".0000000000000001", "p1.0000000000000001", "p1.new",
	}
}

// P12.2, P12.3: files of other names play no part, and stay, whatever they hold.
func TestOtherFiles(t *testing.T) {
	f := disk(t, 1<<20)
	for _, name := range others() {
		lay(t, f, name, bytesOf(of(1)))
	}
	numbered(t, f, "p0")
	latest(t, f, "p0", -1)
	numbered(t, f, "p1", 1)
	latest(t, f, "p1", 1)
	all(t, snapshot.Save(f, "p0", of(3)), snapshot.Save(f, "p0", of(0x11)))
	listed(t, f, append(others(), fileOf("p0", 0x11))...)
	numbered(t, f, "p0", 0x11)
	latest(t, f, "p0", 0x11)
	for _, name := range others() {
		if b, why := f.Read(name); why != api.OK || !bytes.Equal(b, bytesOf(of(1))) {
			t.Errorf("%s: %v", name, why)
		}
	}
	all(t, snapshot.Save(f, "p1", of(2)))
	listed(t, f, append(slices.DeleteFunc(others(), func(s string) bool { return s == "p1.0000000000000001" || s == "p1.new" }), fileOf("p0", 0x11), fileOf("p1", 2))...)
}

// P12.3: Numbers rise, whatever the files hold, and in whatever order they were made.
func TestNumbers(t *testing.T) {
	f := disk(t, 1000)
	numbered(t, f, "p0")
	want := []uint64{0, 1, 9, 10, 15, 16, 0xabc, 1 << 40, 1<<63 - 1, 1 << 63, 1<<64 - 1}
	for i := range want {
		lay(t, f, fileOf("p0", want[(i*7+3)%len(want)]), []byte("no snapshot"))
	}
	numbered(t, f, "p0", want...)
	latest(t, f, "p0", -1)
}

// P12.3: Latest is of the greatest number that reads and is its own.
func TestLatest(t *testing.T) {
	right := func(no uint64) []byte { return bytesOf(of(no)) }
	torn := func(no uint64) []byte { b := bytesOf(of(no)); return b[:len(b)-1] }
	spoilt := func(no uint64) []byte { b := bytesOf(of(no)); b[30] ^= 1; return b }
	for what, x := range map[string]struct {
		files map[uint64][]byte
		want  int
	}{
		"none":                         {map[uint64][]byte{}, -1},
		"one":                          {map[uint64][]byte{3: right(3)}, 3},
		"No 0":                         {map[uint64][]byte{0: right(0)}, 0},
		"several":                      {map[uint64][]byte{3: right(3), 0x10: right(0x10), 9: right(9), 0xa: right(0xa)}, 0x10},
		"the greatest torn":            {map[uint64][]byte{3: right(3), 5: right(5), 9: torn(9)}, 5},
		"the greatest spoilt":          {map[uint64][]byte{3: right(3), 5: right(5), 9: spoilt(9)}, 5},
		"the greatest empty":           {map[uint64][]byte{3: right(3), 5: right(5), 9: nil}, 5},
		"the greatest of another No":   {map[uint64][]byte{3: right(3), 5: right(5), 9: right(8)}, 5},
		"the greatest of a greater No": {map[uint64][]byte{3: right(3), 5: right(5), 9: right(10)}, 5},
		"the greatest of a lower one":  {map[uint64][]byte{3: right(3), 9: right(3)}, 3},
		"turned about":                 {map[uint64][]byte{3: right(9), 9: right(3)}, -1},
		"two that do not read":         {map[uint64][]byte{3: right(3), 5: torn(5), 9: spoilt(9)}, 3},
		"a lower one that does not":    {map[uint64][]byte{3: torn(3), 5: right(5)}, 5},
		"none that reads":              {map[uint64][]byte{3: torn(3), 5: spoilt(5), 9: nil, 10: right(11)}, -1},
		"a number that can't be":       {map[uint64][]byte{3: right(3), 1 << 63: right(1 << 63), 1<<64 - 1: right(4)}, 3},
		"that alone":                   {map[uint64][]byte{1<<63 + 5: right(1<<63 + 5)}, -1},
		"bytes behind":                 {map[uint64][]byte{3: right(3), 5: append(right(5), 0)}, 3},
	} {
		f := disk(t, 10000)
		for no, b := range x.files {
			lay(t, f, fileOf("p0", no), b)
		}
		lay(t, f, "p0.new", bytesOf(of(99)))
		latest(t, f, "p0", x.want, what)
		f.Stop(1)
		latest(t, f, "p0", x.want, what, "on a disk that stops")
		latest(t, f, "p1", -1, what)
	}
}

// P12.2: files with lower numbers go, whether they read or not, those with greater ones stay; the file of the same number is another one then.
func TestSaveAmongOthers(t *testing.T) {
	f := disk(t, 100000)
	for _, no := range []uint64{0, 3, 5, 9, 0x10, 1<<63 - 1, 1 << 63, 1<<64 - 1} {
		lay(t, f, fileOf("p0", no), []byte(fmt.Sprint("old ", no)))
	}
	all(t, snapshot.Save(f, "p0", of(5)))
	numbered(t, f, "p0", 5, 9, 0x10, 1<<63-1, 1<<63, 1<<64-1)
	latest(t, f, "p0", 5)
	if f.Open() != 0 {
		t.Error(f.Open())
	}
	other := of(5)
	other.More = []byte("another one")
	all(t, snapshot.Save(f, "p0", other))
	numbered(t, f, "p0", 5, 9, 0x10, 1<<63-1, 1<<63, 1<<64-1)
	if s, is, _ := snapshot.Latest(f, "p0"); !is || !snapshot.Same(s, other) {
		t.Error(told(s))
	}
	all(t, snapshot.Save(f, "p0", of(2)))
	numbered(t, f, "p0", 2, 5, 9, 0x10, 1<<63-1, 1<<63, 1<<64-1)
	all(t, snapshot.Save(f, "p0", of(9)))
	numbered(t, f, "p0", 9, 0x10, 1<<63-1, 1<<63, 1<<64-1)
	latest(t, f, "p0", 9)
	for _, no := range []uint64{0x10, 1<<63 - 1, 1 << 63} {
		if b, _ := f.Read(fileOf("p0", no)); string(b) != fmt.Sprint("old ", no) {
			t.Errorf("%d: %q", no, b)
		}
	}
}

// P12.2: of several names on one disk each has its own.
func TestSaveOfSeveralNames(t *testing.T) {
	f := disk(t, 100000)
	names := []string{"p", "p0", "p0_", "p00", "new", "0", strings.Repeat("x", 40)}
	for i, name := range names {
		all(t, snapshot.Save(f, name, of(uint64(i)+1)), snapshot.Save(f, name, of(uint64(i)+20)))
	}
	for i, name := range names {
		numbered(t, f, name, uint64(i)+20)
		latest(t, f, name, i+20)
	}
	if len(f.List()) != len(names) {
		t.Error(f.List())
	}
}
