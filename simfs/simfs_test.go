package simfs_test

import (
	"bytes"
	"math"
	"slices"
	"strconv"
	"strings"
	"testing"

	"lockstep/api"
	"lockstep/simfs"
)

// disk is a new one.
func disk(t *testing.T, quota int) *simfs.FS {
	t.Helper()
	f, why := simfs.New(quota)
	if f == nil || why != api.OK {
		t.Fatalf("New(%d): %v", quota, why)
	}
	return f
}

// all fails the test if one of what calls answered is not OK.
func all(t *testing.T, answers ...api.Errno) {
	t.Helper()
	for i, why := range answers {
		if why != api.OK {
			t.Fatalf("answer %d: %v", i, why)
		}
	}
}

// with is a disk that has these files, each with its bytes; all of it stands fast.
func with(t *testing.T, quota int, namesAndBytes ...string) *simfs.FS {
	t.Helper()
	f := disk(t, quota)
	for i := 0; i < len(namesAndBytes); i += 2 {
		name := namesAndBytes[i]
		all(t, f.Create(name), f.Append(name, []byte(namesAndBytes[i+1])), f.Sync(name))
	}
	all(t, f.SyncNames())
	return f
}

// files is a disk's names with their bytes, and | behind those that stand fast.
func files(f *simfs.FS) string {
	var l []string
	for _, e := range f.Image() {
		l = append(l, e.Name+":"+string(e.B[:e.Fast])+"|"+string(e.B[e.Fast:]))
	}
	return strings.Join(l, " ")
}

func stands(t *testing.T, f *simfs.FS, want string) {
	t.Helper()
	if got := files(f); got != want {
		t.Errorf("%q, not %q", got, want)
	}
}

// P4.1: a quota from 0 to MaxQuota, and no other.
func TestNew(t *testing.T) {
	for _, quota := range []int{0, 1, 100, api.MaxQuota - 1, api.MaxQuota} {
		f := disk(t, quota)
		if got := told(f, []string{"a"}); got != newModel(quota).told([]string{"a"}) {
			t.Errorf("New(%d): %s", quota, got)
		}
	}
	for _, quota := range []int{-1, math.MinInt, api.MaxQuota + 1, math.MaxInt} {
		if f, why := simfs.New(quota); f != nil || why != api.ErrArg {
			t.Errorf("New(%d): %v %v", quota, f, why)
		}
	}
}

func names() (good, bad []string) {
	good = []string{"a", "!", "~", "A/b.c-1", "..", strings.Repeat("x", 63), strings.Repeat("x", 64), "!~" + strings.Repeat("~", 62), "'\"\\"}
	bad = []string{"", " ", "\x7f", "a b", " a", "a ", "a\x7f", "a\n", "\x00", "é", "a\xff", "\x80", strings.Repeat("x", 65), strings.Repeat("x", 1000), strings.Repeat("é", 32)}
	return good, bad
}

// P4.1, P4.2: names of 1 to 64 bytes from 33 to 126; of all others each call says ErrName, and nothing else.
func TestNames(t *testing.T) {
	good, bad := names()
	for c := range 256 {
		if one := string([]byte{byte(c)}); c >= 33 && c <= 126 {
			good = append(good, one, "q"+one, one+"q")
		} else {
			bad = append(bad, one, "q"+one, one+"q")
		}
	}
	for _, name := range good {
		f := disk(t, 10)
		all(t, f.Create(name), f.Append(name, []byte("x")), f.Sync(name), f.Rename(name, "to"), f.Rename("to", name), f.Cut(name, 0), f.Remove(name))
	}
	f := with(t, 10, "a", "xyz")
	was := told(f, nil)
	for _, name := range bad {
		b, e1 := f.Read(name)
		n, e2 := f.Size(name)
		fast, e3 := f.Fast(name)
		for i, why := range []api.Errno{e1, e2, e3, f.Create(name), f.Append(name, []byte("x")), f.Append(name, make([]byte, 100)), f.Cut(name, 0), f.Cut(name, -1), f.Rename(name, "a"), f.Rename("a", name), f.Rename("none", name), f.Rename(name, name), f.Remove(name), f.Sync(name)} {
			if why != api.ErrName {
				t.Errorf("%q, answer %d: %v", name, i, why)
			}
		}
		if b != nil || n != 0 || fast != 0 || told(f, nil) != was {
			t.Errorf("%q: %v %d %d %s", name, b, n, fast, told(f, nil))
		}
	}
}

// P4.1, P4.2: of a name that no file has each call but Create says ErrNone; also of one that a file had.
func TestNone(t *testing.T) {
	f := with(t, 10, "a", "xyz", "gone", "x", "moved", "y")
	all(t, f.Remove("gone"), f.Rename("moved", "b"))
	was := told(f, nil)
	for _, name := range []string{"none", "A", "gone", "moved", "aa"} {
		b, e1 := f.Read(name)
		n, e2 := f.Size(name)
		fast, e3 := f.Fast(name)
		for i, why := range []api.Errno{e1, e2, e3, f.Append(name, nil), f.Append(name, make([]byte, 100)), f.Cut(name, 0), f.Cut(name, -1), f.Rename(name, "a"), f.Rename(name, name), f.Remove(name), f.Sync(name)} {
			if why != api.ErrNone {
				t.Errorf("%q, answer %d: %v", name, i, why)
			}
		}
		if b != nil || n != 0 || fast != 0 || told(f, nil) != was {
			t.Errorf("%q: %v %d %d %s", name, b, n, fast, told(f, nil))
		}
	}
}

// P4.1: Create says ErrThere ahead of ErrMany; MaxFiles files, and no more until one has no name any more.
func TestCreateMany(t *testing.T) {
	f := disk(t, 10)
	for i := range api.MaxFiles {
		all(t, f.Create(strconv.Itoa(i)))
	}
	for range 2 {
		if e, there := f.Create("x"), f.Create("63"); e != api.ErrMany || there != api.ErrThere || len(f.List()) != api.MaxFiles || f.Open() != api.MaxFiles {
			t.Error(e, there, f.List(), f.Open())
		}
	}
	all(t, f.Rename("0", "x"), f.Rename("x", "1"), f.Create("y"))
	if e := f.Create("z"); e != api.ErrMany {
		t.Error(e)
	}
	all(t, f.Remove("y"), f.Create("z"))
	if e := f.Create("y"); e != api.ErrMany {
		t.Error(e)
	}
	f.Crash(nil, 5)
	all(t, f.Create("y"))
	if n, why := f.Size("y"); n != 0 || why != api.OK || f.Open() != 1 || len(f.List()) != 6 {
		t.Error(n, why, f.List())
	}
}

// P4.1: an Append that fills the quota goes, one beyond it does not, and of that nothing; bytes of all files that have names count, and of no others.
func TestQuota(t *testing.T) {
	f := disk(t, 10)
	all(t, f.Create("a"), f.Create("b"), f.Append("a", []byte("123456")), f.Append("b", []byte("789")))
	if e := f.Append("b", []byte("01")); e != api.ErrQuota {
		t.Error(e)
	}
	stands(t, f, "a:|123456 b:|789")
	all(t, f.Append("b", []byte("0")), f.Append("a", nil), f.Append("b", []byte{}))
	for _, name := range []string{"a", "b"} {
		if e := f.Append(name, []byte("x")); e != api.ErrQuota || f.Used() != 10 {
			t.Error(e, f.Used())
		}
	}
	all(t, f.Cut("a", 5), f.Append("b", []byte("x")), f.Remove("b"))
	if e := f.Append("a", []byte("123456")); e != api.ErrQuota || f.Used() != 5 {
		t.Error(e)
	}
	all(t, f.Append("a", []byte("67890")), f.Create("c"), f.Rename("c", "a"), f.Append("a", []byte("abcdefghij")))
	stands(t, f, "a:|abcdefghij")

	empty := with(t, 0, "a", "")
	if e := empty.Append("a", []byte("x")); e != api.ErrQuota {
		t.Error(e)
	}
	all(t, empty.Append("a", nil))
	great := disk(t, api.MaxQuota)
	all(t, great.Create("a"), great.Create("b"), great.Append("a", make([]byte, api.MaxQuota-1)), great.Append("b", []byte{1}))
	if e := great.Append("b", []byte{1}); e != api.ErrQuota || great.Used() != api.MaxQuota {
		t.Error(e, great.Used())
	}
}

// P4.1: Cut to 0, to what stands fast and below it, to all bytes and beyond; what is cut is gone.
func TestCut(t *testing.T) {
	for _, x := range []struct {
		n    int
		why  api.Errno
		want string
	}{
		{0, api.OK, "a:|"}, {1, api.OK, "a:x|"}, {2, api.OK, "a:xy|"}, {3, api.OK, "a:xyz|"}, {4, api.OK, "a:xyz|u"}, {5, api.OK, "a:xyz|uv"},
		{6, api.ErrArg, "a:xyz|uv"}, {-1, api.ErrArg, "a:xyz|uv"}, {math.MaxInt, api.ErrArg, "a:xyz|uv"}, {math.MinInt, api.ErrArg, "a:xyz|uv"},
	} {
		f := with(t, 10, "a", "xyz")
		all(t, f.Append("a", []byte("uv")))
		if why := f.Cut("a", x.n); why != x.why {
			t.Errorf("Cut to %d: %v", x.n, why)
		}
		stands(t, f, x.want)
		if x.why != api.OK {
			continue
		}
		all(t, f.Append("a", []byte("q")))
		for keep := range 4 {
			g := f.Clone()
			g.Crash([]int{keep}, 0)
			if b, _ := g.Read("a"); !strings.HasPrefix("xyzuv"[:x.n]+"q", string(b)) {
				t.Errorf("Cut to %d: behind a crash %q", x.n, b)
			}
		}
	}
	f := with(t, 10, "a", "xyz")
	all(t, f.Cut("a", 1), f.Append("a", []byte("YZ")))
	stands(t, f, "a:x|YZ")
	f.Crash(nil, 0)
	stands(t, f, "a:x|")
}

// P4.1: Rename onto nothing, onto a file, of one name twice, round about.
func TestRename(t *testing.T) {
	f := with(t, 20, "a", "old", "b", "new")
	all(t, f.Append("b", []byte("er")), f.Rename("b", "c"))
	stands(t, f, "a:old| c:new|er")
	all(t, f.Rename("c", "a"))
	stands(t, f, "a:new|er")
	if f.Used() != 5 || f.Open() != 2 {
		t.Error(f.Used(), f.Open())
	}
	all(t, f.Rename("a", "a"))
	stands(t, f, "a:new|er")
	if f.Open() != 2 {
		t.Error("of one name twice nothing changes, and nothing is open", f.Open())
	}
	g := with(t, 20, "a", "1", "b", "2", "t", "")
	all(t, g.Rename("a", "t"), g.Rename("b", "a"), g.Rename("t", "b"))
	stands(t, g, "a:2| b:1|")
}

// P4.1: a removed file's name is free; what has it then is another file.
func TestRemove(t *testing.T) {
	f := with(t, 20, "a", "old", "b", "")
	all(t, f.Remove("a"))
	stands(t, f, "b:|")
	if e := f.Remove("a"); e != api.ErrNone {
		t.Error(e)
	}
	all(t, f.Create("a"))
	stands(t, f, "a:| b:|")
}

// P4.2: names rising byte by byte, and Image by them.
func TestList(t *testing.T) {
	f := disk(t, 20)
	if l := f.List(); len(l) != 0 {
		t.Error(l)
	}
	want := []string{"!", "0", "00", "1", "10", "2", "A", "Z", "_", "a", "a!", "a1", "aa", "b", "~"}
	for _, i := range []int{3, 14, 0, 7, 11, 1, 9, 2, 13, 4, 12, 5, 10, 6, 8} {
		all(t, f.Create(want[i]))
	}
	if l := f.List(); !slices.Equal(l, want) {
		t.Error(l)
	}
	for i, e := range f.Image() {
		if e.Name != want[i] || len(e.B) != 0 || e.Fast != 0 {
			t.Error(i, e)
		}
	}
	if len(f.Image()) != len(want) {
		t.Error(f.Image())
	}
}

// P4.2: Sync lets all bytes of one file stand fast, SyncNames the names alone.
func TestSync(t *testing.T) {
	f := disk(t, 20)
	all(t, f.Create("a"), f.Create("b"), f.Append("a", []byte("xyz")), f.Append("b", []byte("uv")))
	if f.Open() != 2 {
		t.Error(f.Open())
	}
	all(t, f.Sync("a"))
	stands(t, f, "a:xyz| b:|uv")
	if f.Open() != 2 {
		t.Error("Sync is of bytes alone", f.Open())
	}
	all(t, f.Append("a", []byte("1")), f.SyncNames())
	stands(t, f, "a:xyz|1 b:|uv")
	if f.Open() != 0 {
		t.Error(f.Open())
	}
	all(t, f.Rename("b", "c"), f.Remove("a"), f.Create("a"))
	if f.Open() != 3 {
		t.Error(f.Open())
	}
	all(t, f.SyncNames(), f.SyncNames())
	stands(t, f, "a:| c:|uv")
	if f.Open() != 0 {
		t.Error(f.Open())
	}
}

// P4.2: a Clone has what is open, and goes on alone, as the disk does beside it; also with files that both give back.
func TestClone(t *testing.T) {
	f := with(t, 20, "a", "lost", "b", "twice", "c", "x")
	all(t, f.Append("c", []byte("yz")), f.Remove("a"), f.Rename("b", "c"), f.Create("d"))
	g := f.Clone()
	h := g.Clone()
	all(t, g.Append("c", []byte("G")), g.Cut("c", 1), g.Append("c", []byte("GG")), g.Sync("c"), g.Remove("d"), f.Append("c", []byte("F")))
	stands(t, f, "c:twice|F d:|")
	stands(t, g, "c:tGG|")
	stands(t, h, "c:twice| d:|")
	if f.Open() != 3 || g.Open() != 4 || h.Open() != 3 {
		t.Error(f.Open(), g.Open(), h.Open())
	}
	for _, one := range []*simfs.FS{f, g, h} {
		one.Crash([]int{1}, 0)
	}
	stands(t, f, "a:lost| b:twiceF| c:xy|")
	stands(t, g, "a:lost| b:tGG| c:xy|")
	stands(t, h, "a:lost| b:twice| c:xy|")
	all(t, f.Cut("a", 1), f.Append("a", []byte("F")), g.Append("a", []byte("G")), h.Cut("a", 0), f.Cut("c", 0), f.Append("c", []byte("--")))
	stands(t, f, "a:l|F b:twiceF| c:|--")
	stands(t, g, "a:lost|G b:tGG| c:xy|")
	stands(t, h, "a:| b:twice| c:xy|")
	if e := g.Append("b", make([]byte, 20)); e != api.ErrQuota {
		t.Error("a Clone has the quota", e)
	}
}

// P4.1, P4.2 and the rule of memory: what is handed in is not kept, what is handed out is new.
func TestMemory(t *testing.T) {
	f := disk(t, 100)
	room := []byte("0123456789")
	all(t, f.Create("a"), f.Append("a", room[:4]), f.Append("a", room[2:6]))
	if string(room) != "0123456789" {
		t.Errorf("%s", room)
	}
	copy(room, "----------")
	stands(t, f, "a:|01232345")
	spoil := func(b []byte) {
		b = b[:cap(b)]
		for i := range b {
			b[i] = '#'
		}
	}
	for range 3 {
		b, _ := f.Read("a")
		again, _ := f.Read("a")
		l, image := f.List(), f.Image()
		spoil(b)
		spoil(image[0].B)
		if string(again) != "01232345" {
			t.Errorf("%q", again)
		}
		l = l[:cap(l)]
		for i := range l {
			l[i] = "#"
		}
		image[0] = api.Entry{}
		stands(t, f, "a:|01232345")
		all(t, f.Append("a", []byte("6")), f.Cut("a", 8))
		if !bytes.Equal(again, []byte("01232345")) {
			t.Errorf("%q", again)
		}
	}
	g := f.Clone()
	all(t, f.Append("a", []byte("F")), g.Append("a", []byte("G")))
	all(t, f.Create("f"), g.Create("g"))
	stands(t, f, "a:|01232345F f:|")
	stands(t, g, "a:|01232345G g:|")
	keeps := []int{3, -1, 7}
	f.Crash(keeps[:1], 2)
	if !slices.Equal(keeps, []int{3, -1, 7}) {
		t.Error(keeps)
	}
}

// The rule of errors: a call that is refused changes nothing, whatever refuses it.
func TestRefusedChangesNothing(t *testing.T) {
	f := with(t, 6, "a", "xyz", "b", "u")
	all(t, f.Append("a", []byte("v")), f.Rename("b", "c"))
	was := told(f, []string{"a", "b", "c"})
	for _, why := range []api.Errno{f.Create("a"), f.Create(""), f.Append("a", make([]byte, 2)), f.Append("b", nil), f.Cut("a", 5), f.Cut("b", 0), f.Rename("b", "a"), f.Rename("a", " "), f.Remove("b"), f.Sync("b")} {
		if why == api.OK || told(f, []string{"a", "b", "c"}) != was {
			t.Error(why, told(f, []string{"a", "b", "c"}))
		}
	}
}

// The rule of ends: not even the zero value panics.
func TestZeroDisk(t *testing.T) {
	var f simfs.FS
	f.Crash([]int{1}, 1)
	g := f.Clone()
	for _, one := range []*simfs.FS{&f, g} {
		told(one, []string{"a", ""})
		for _, a := range few() {
			do(one, a)
		}
	}
}
