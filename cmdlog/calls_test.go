package cmdlog_test

import (
	"math"
	"testing"

	"lockstep/api"
	"lockstep/cmdlog"
	"lockstep/simfs"
)

// P10.3: First, Last, Fast and Files behind each call.
func TestNumbersBehindEachCall(t *testing.T) {
	f := disk(t, 10000)
	l := opened(t, f, 64)
	is(t, l, 1, 0, 0, nil)
	all(t, l.Commit(), l.Drop(0), l.Drop(9))
	is(t, l, 1, 0, 0, nil)
	appended(t, l, "a", 1)
	is(t, l, 1, 1, 0, []uint64{1}, "a")
	all(t, l.Commit())
	is(t, l, 1, 1, 1, []uint64{1}, "a")
	appended(t, l, thirty, 2)
	is(t, l, 1, 2, 1, []uint64{1}, "a", thirty)
	appended(t, l, thirty, 3) // the file ahead stands fast now, but nobody has asked
	is(t, l, 1, 3, 1, []uint64{1, 3}, "a", thirty, thirty)
	appended(t, l, "", 4)
	is(t, l, 1, 4, 1, []uint64{1, 3, 4}, "a", thirty, thirty, "")
	all(t, l.Drop(0))
	is(t, l, 1, 4, 4, []uint64{1, 3, 4}, "a", thirty, thirty, "")
	appended(t, l, "b", 5)
	all(t, l.Drop(2))
	is(t, l, 3, 5, 5, []uint64{3, 4}, thirty, "", "b")
	appended(t, l, "c", 6)
	refused(t, l, long+"m", api.ErrLong)
	is(t, l, 3, 6, 5, []uint64{3, 4}, thirty, "", "b", "c")
	l = opened(t, f, 64)
	is(t, l, 3, 6, 6, []uint64{3, 4}, thirty, "", "b", "c")
	all(t, l.Drop(6), l.Commit())
	is(t, l, 4, 6, 6, []uint64{4}, "", "b", "c")
	is(t, opened(t, f, 64), 4, 6, 6, []uint64{4}, "", "b", "c")
}

// P10.3: Commit Syncs the last file, then the names, and nothing else.
func TestCommit(t *testing.T) {
	f := disk(t, 10000)
	l := opened(t, f, 64)
	lay(t, f, "else", []byte("else"), 1)
	appended(t, l, thirty, 1)
	appended(t, l, thirty, 2)
	all(t, f.Append(nameOf(1), []byte("x")), f.Cut(nameOf(1), 66)) // as it was
	appended(t, l, "a", 3)
	for n := 1; n <= 2; n++ {
		g := f.Clone()
		f.Stop(n)
		if why := l.Commit(); why != api.ErrStop {
			t.Error(n, why)
		}
		is(t, l, 1, 3, 0, []uint64{1, 2, 3}, thirty, thirty, "a")
		f.Stop(0)
		if n == 2 {
			all(t, g.Sync(nameOf(3)))
		}
		if stands(f) != stands(g) {
			t.Errorf("refused at %d: %s\nnot\n%s", n, stands(f), stands(g))
		}
	}
	g := f.Clone()
	f.Stop(3)
	g.Stop(3)
	all(t, l.Commit(), g.Sync(nameOf(3)), g.SyncNames())
	if stands(f) != stands(g) {
		t.Errorf("%s\nnot\n%s", stands(f), stands(g))
	}
	is(t, l, 1, 3, 3, []uint64{1, 2, 3}, thirty, thirty, "a")
	if n, _ := f.Fast("else"); n != 1 {
		t.Error("another file was Synced")
	}
}

// P10.3: of a log without files Commit Syncs the names alone.
func TestCommitWithoutFiles(t *testing.T) {
	f := disk(t, 100)
	l := opened(t, f, 64)
	all(t, f.Create("else"))
	f.Stop(1)
	for range 2 {
		if why := l.Commit(); why != api.ErrStop || f.Open() != 1 {
			t.Error(why, f.Open())
		}
	}
	f.Stop(2)
	all(t, l.Commit())
	if f.Open() != 0 || f.Sync("else") != api.ErrStop {
		t.Error("just one change", stands(f))
	}
	is(t, l, 1, 0, 0, nil)
}

// P10.3: a Commit that was refused is none: what stands fast stays what it was, behind further calls, too.
func TestFastBehindRefusals(t *testing.T) {
	f, l := with(t, 64, "a")
	all(t, l.Commit())
	appended(t, l, "b", 2)
	for n := 1; n <= 2; n++ {
		f.Stop(n)
		if why := l.Drop(7); why != api.ErrStop || l.Fast() != 1 {
			t.Error(why, l.Fast())
		}
		f.Stop(n)
		if why := l.Commit(); why != api.ErrStop || l.Fast() != 1 {
			t.Error(why, l.Fast())
		}
	}
	f.Stop(0)
	all(t, l.Commit())
	if l.Fast() != 2 {
		t.Error(l.Fast())
	}
}

// P10.3: Read below First, at it, at Last, at Last and 1, above; of fewer than none, none, one, all, more than there are.
func TestRead(t *testing.T) {
	_, l := with(t, 64, thirty, "a", thirty, "b", "c")
	all(t, l.Drop(1)) // 2, 3 in a file, 4, 5 in another one
	for _, x := range []struct {
		from uint64
		most int
		want string
	}{
		{0, 5, " 1"}, {1, 5, " 1"}, {1, 0, " 1"}, {7, 5, " 1"}, {8, 0, " 1"}, {math.MaxUint64, 5, " 1"}, {1 << 63, 5, " 1"},
		{2, -1, " 1"}, {5, math.MinInt, " 1"}, {6, -1, " 1"}, {0, -1, " 1"}, {9, -5, " 1"},
		{2, 0, " 0"}, {5, 0, " 0"}, {6, 0, " 0"}, {6, 1, " 0"}, {6, math.MaxInt, " 0"},
		{2, 1, ` 2 "a" 0`}, {3, 1, ` 3 "` + thirty + `" 0`}, {4, 1, ` 4 "b" 0`}, {5, 1, ` 5 "c" 0`},
		{2, 2, ` 2 "a" 3 "` + thirty + `" 0`}, {3, 2, ` 3 "` + thirty + `" 4 "b" 0`}, {4, 2, ` 4 "b" 5 "c" 0`}, {5, 2, ` 5 "c" 0`},
		{2, 3, ` 2 "a" 3 "` + thirty + `" 4 "b" 0`}, {3, 3, ` 3 "` + thirty + `" 4 "b" 5 "c" 0`}, {4, 3, ` 4 "b" 5 "c" 0`},
		{2, 4, ` 2 "a" 3 "` + thirty + `" 4 "b" 5 "c" 0`}, {2, 5, ` 2 "a" 3 "` + thirty + `" 4 "b" 5 "c" 0`}, {2, math.MaxInt, ` 2 "a" 3 "` + thirty + `" 4 "b" 5 "c" 0`},
	} {
		if got := readTold(l, x.from, x.most); got != x.want {
			t.Errorf("Read(%d, %d):%s, not%s", x.from, x.most, got, x.want)
		}
	}
}

// P10.3: Read of a log without records, and of one that ends with the number 2^64 - 1: there is no Last and 1.
func TestReadAtTheEnds(t *testing.T) {
	l := opened(t, disk(t, 100), 64)
	top := opened(t, laid(t, map[uint64][]byte{math.MaxUint64: fileOf(math.MaxUint64, "z")}), 64)
	for _, x := range []struct {
		l    *cmdlog.Log
		from uint64
		most int
		want string
	}{
		{l, 0, 1, " 1"}, {l, 1, 1, " 0"}, {l, 1, 0, " 0"}, {l, 1, -1, " 1"}, {l, 2, 1, " 1"}, {l, math.MaxUint64, 1, " 1"},
		{top, 0, 1, " 1"}, {top, 1, 1, " 1"}, {top, math.MaxUint64 - 1, 1, " 1"},
		{top, math.MaxUint64, 0, " 0"}, {top, math.MaxUint64, 1, ` 18446744073709551615 "z" 0`}, {top, math.MaxUint64, math.MaxInt, ` 18446744073709551615 "z" 0`},
	} {
		if got := readTold(x.l, x.from, x.most); got != x.want {
			t.Errorf("Read(%d, %d):%s, not%s", x.from, x.most, got, x.want)
		}
	}
}

// P10.3: Read tells what was Appended, whether it stands fast or not, and changes nothing; a disk that has stopped plays no part.
func TestReadChangesNothing(t *testing.T) {
	f, l := with(t, 64, thirty, "a")
	f.Stop(1)
	was := stands(f)
	if got := readTold(l, 1, 9); got != ` 1 "`+thirty+`" 2 "a" 0` || stands(f) != was || l.Fast() != 0 {
		t.Error(got, stands(f))
	}
}

// P10.3: which files a Drop lets go: those all of whose records are not above upto, but never the last one.
func TestDrop(t *testing.T) {
	for _, x := range []struct {
		upto  uint64
		first uint64
		files []uint64
	}{
		{0, 2, []uint64{2, 4, 5, 8}}, {1, 2, []uint64{2, 4, 5, 8}}, {2, 2, []uint64{2, 4, 5, 8}},
		{3, 4, []uint64{4, 5, 8}}, {4, 5, []uint64{5, 8}}, {5, 5, []uint64{5, 8}}, {6, 5, []uint64{5, 8}},
		{7, 8, []uint64{8}}, {8, 8, []uint64{8}}, {9, 8, []uint64{8}}, {10, 8, []uint64{8}}, {math.MaxUint64, 8, []uint64{8}},
	} {
		f := laid(t, map[uint64][]byte{2: fileOf(2, "2", thirty), 4: fileOf(4, thirty), 5: fileOf(5, "5", "6", thirty), 8: fileOf(8, "8")})
		said := []string{"2", thirty, thirty, "5", "6", thirty, "8", "9"}
		l := opened(t, f, 64)
		appended(t, l, "9", 9)
		all(t, l.Drop(x.upto))
		is(t, l, x.first, 9, 9, x.files, said[x.first-2:]...)
		if len(f.List()) != len(x.files) || f.Open() != 0 {
			t.Errorf("Drop(%d): %s", x.upto, stands(f))
		}
		is(t, opened(t, f, 64), x.first, 9, 9, x.files, said[x.first-2:]...)
		appended(t, l, "10", 10)
	}
	for _, upto := range []uint64{0, 1, 2, math.MaxUint64} { // of one file
		_, l := with(t, 64, "a", "b")
		all(t, l.Drop(upto))
		is(t, l, 1, 2, 2, []uint64{1}, "a", "b")
	}
}

// P10.3: what Drop does, one behind the other, each refused in turn: what was done stays, and First and Fast with it.
func TestDropRefused(t *testing.T) {
	for n := 1; n <= 7; n++ {
		f, l := with(t, 64, thirty, thirty, thirty)
		all(t, l.Commit())
		appended(t, l, "a", 4)
		appended(t, l, "b", 5)
		f.Stop(n)
		g := f.Clone()
		first, fast := uint64(1), uint64(3)
		want := g.Sync(nameOf(4))
		if want == api.OK {
			want = g.SyncNames()
		}
		if want == api.OK {
			fast = 5
		}
		for no := uint64(1); no <= 3 && want == api.OK; no++ {
			if want = g.Remove(nameOf(no)); want == api.OK {
				first = no + 1
			}
		}
		if want == api.OK {
			want = g.SyncNames()
		}
		if why := l.Drop(3); why != want || (why == api.OK) != (n == 7) || stands(f) != stands(g) {
			t.Errorf("refused at %d: %v %s\nnot\n%v %s", n, why, stands(f), want, stands(g))
		}
		is(t, l, first, 5, fast, []uint64{1, 2, 3, 4}[first-1:], []string{thirty, thirty, thirty, "a", "b"}[first-1:]...)
		if why := l.Drop(3); n < 7 && why != api.ErrStop {
			t.Error(why)
		}
		f.Stop(0) // and asked again it is done
		all(t, l.Drop(3))
		is(t, l, 4, 5, 5, []uint64{4}, "a", "b")
		if f.Open() != 0 {
			t.Error(f.Open())
		}
	}
}

// P10.3: a Drop that lets nothing go Syncs the names twice all the same.
func TestDropOfNothing(t *testing.T) {
	for _, x := range []struct {
		texts []string
		n     int
	}{{nil, 2}, {[]string{"a"}, 3}, {[]string{thirty, "b"}, 3}} {
		for n := 1; n <= x.n+1; n++ {
			f, l := with(t, 64, x.texts...)
			f.Stop(n)
			if why := l.Drop(0); (why == api.OK) != (n > x.n) || n <= x.n && why != api.ErrStop {
				t.Errorf("%q, Stop(%d): %v", x.texts, n, why)
			}
			if n == x.n+1 && f.SyncNames() != api.ErrStop {
				t.Errorf("%q: fewer than %d changes", x.texts, x.n)
			}
		}
	}
}

// The zero Log, which nobody opened: whatever its calls answer, they end.
func TestZeroLog(t *testing.T) {
	var l cmdlog.Log
	l.Append(nil)
	l.Append([]byte("a"))
	l.Commit()
	l.Drop(1)
	l.Read(0, 1)
	l.Read(1, 1)
	l.First()
	l.Last()
	l.Fast()
	l.Files()
	if _, why := cmdlog.Open(&simfs.FS{}, "log", 64); why != api.OK {
		t.Error("a disk without room is one", why)
	}
}

// A log whose files somebody else has taken or changed: whatever its calls answer, they end.
func TestSpoiltMeanwhile(t *testing.T) {
	spoil := []func(f *simfs.FS){
		func(f *simfs.FS) { f.Remove(nameOf(1)) },
		func(f *simfs.FS) { f.Remove(nameOf(2)) },
		func(f *simfs.FS) { f.Cut(nameOf(1), 0) },
		func(f *simfs.FS) { f.Cut(nameOf(2), 30) },
		func(f *simfs.FS) { f.Rename(nameOf(2), nameOf(1)) },
		func(f *simfs.FS) { f.Create(nameOf(4)) },
		func(f *simfs.FS) { f.Crash(nil, 0) },
	}
	for _, do := range spoil {
		f, l := with(t, 64, thirty, "a", "b")
		do(f)
		l.Read(1, 9)
		l.Read(3, 9)
		l.Append([]byte(thirty))
		l.Append([]byte("c"))
		l.Commit()
		l.Drop(9)
		l.Read(l.First(), 9)
		l.Files()
	}
	f, l := with(t, 64, thirty, "a", "b")
	f.Cut(nameOf(2), 30)
	if list, why := l.Read(1, 9); list != nil || why != api.ErrLog {
		t.Error(list, why)
	}
	f.Remove(nameOf(2))
	if list, why := l.Read(1, 9); list != nil || why != api.ErrNone {
		t.Error(list, why)
	}
	refused(t, l, "c", api.ErrNone)
}
