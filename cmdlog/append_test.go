package cmdlog_test

import (
	"bytes"
	"math"
	"slices"
	"strings"
	"testing"

	"lockstep/api"
	"lockstep/simfs"
)

// The example of the chapter.
func TestExample(t *testing.T) {
	f := disk(t, 10000)
	l := opened(t, f, 64)
	appended(t, l, "a", 1)
	if n, why := f.Size("log.0000000000000001"); n != 24+4+1+8 || why != api.OK || len(f.List()) != 1 {
		t.Error(n, why, f.List())
	}
	appended(t, l, thirty, 2)
	if n, _ := f.Size("log.0000000000000001"); n != 24+13+42 || len(f.List()) != 1 {
		t.Error(n, f.List())
	}
	appended(t, l, "b", 3)
	if want := []string{"log.0000000000000001", "log.0000000000000003"}; !slices.Equal(f.List(), want) || !slices.Equal(l.Files(), want) {
		t.Error(f.List(), l.Files())
	}
}

// P10.2: records of no byte, of one, of as many as can be; one more is too many, and nothing is done.
func TestAppendLengths(t *testing.T) {
	f, l := with(t, 1<<22)
	said := []string{"", "a", long[1:], long, "", thirty}
	for i, text := range said {
		appended(t, l, text, uint64(i)+1)
	}
	if b, _ := f.Read(nameOf(1)); !bytes.Equal(b, fileOf(1, said...)) {
		t.Error(short(b))
	}
	is(t, l, 1, 6, 0, []uint64{1}, said...)
	was := stands(f)
	for _, n := range []int{api.MaxMessage + 1, api.MaxMessage + 2, 1 << 20} {
		refused(t, l, strings.Repeat("m", n), api.ErrLong)
	}
	f.Stop(1)
	refused(t, l, long+"m", api.ErrLong)
	f.Stop(0)
	if stands(f) != was {
		t.Error("a record that is too long changes the disk")
	}
	if no, why := l.Append(nil); no != 7 || why != api.OK {
		t.Error(no, why)
	}
	is(t, l, 1, 7, 0, []uint64{1}, append(said, "")...)
	is(t, opened(t, f, 64), 1, 7, 7, []uint64{1}, append(said, "")...)
}

// P10.2: behind the record 2^64 - 1 there is none, however short; nothing is done.
func TestAppendBehindTheLastNumber(t *testing.T) {
	for _, size := range []int{64, 1000} {
		f := laid(t, map[uint64][]byte{math.MaxUint64 - 1: fileOf(math.MaxUint64-1, thirty)})
		l := opened(t, f, size)
		appended(t, l, "z", math.MaxUint64)
		was, said := stands(f), told(l)
		for _, text := range []string{"", "a", long + "m"} {
			refused(t, l, text, api.ErrLong)
		}
		if stands(f) != was || told(l) != said {
			t.Errorf("%s %s", stands(f), told(l))
		}
		all(t, l.Commit())
		l = opened(t, f, size)
		if l.Last() != math.MaxUint64 || l.Fast() != math.MaxUint64 {
			t.Error(told(l))
		}
		refused(t, l, "", api.ErrLong)
		all(t, l.Drop(math.MaxUint64))
		if got := texts(t, l); got[len(got)-1] != "z" {
			t.Error(got)
		}
	}
}

// P10.2: a file has room as long as it has fewer than size bytes, whatever the record's length.
func TestAppendRoom(t *testing.T) {
	for size := 64; size < 140; size++ {
		for first := range 110 {
			f, l := with(t, size, strings.Repeat("x", first))
			has := 24 + 12 + first
			if n, _ := f.Size(nameOf(1)); n != has {
				t.Fatal(n)
			}
			appended(t, l, thirty, 2)
			files := []uint64{1}
			if has >= size {
				files = []uint64{1, 2}
			}
			is(t, l, 1, 2, 0, files, strings.Repeat("x", first), thirty)
			if fast, _ := f.Fast(nameOf(1)); len(files) == 2 && fast != has || len(files) == 1 && fast != 0 {
				t.Fatalf("size %d, %d bytes: %d fast", size, has, fast)
			}
		}
	}
	f, l := with(t, 64, "a") // a file that has room takes the longest record
	appended(t, l, long, 2)
	appended(t, l, long, 3)
	appended(t, l, "", 4)
	is(t, l, 1, 4, 0, []uint64{1, 3, 4}, "a", long, long, "")
	if b, _ := f.Read(nameOf(3)); !bytes.Equal(b, fileOf(3, long)) {
		t.Error(short(b))
	}
}

// P10.2: opened with another size, a log goes on by that.
func TestAppendOtherSize(t *testing.T) {
	f, l := with(t, 1000, thirty, "a")
	all(t, l.Commit())
	l = opened(t, f, 64)
	appended(t, l, "b", 3)
	is(t, l, 1, 3, 2, []uint64{1, 3}, thirty, "a", "b")
	l = opened(t, f, 1<<22)
	appended(t, l, thirty, 4)
	appended(t, l, thirty, 5)
	is(t, l, 1, 5, 3, []uint64{1, 3}, thirty, "a", "b", thirty, thirty)
}

// P10.2: a record into a file with room is one call; refused, it is not there, and its half stays.
func TestAppendRefusedInAFile(t *testing.T) {
	f, l := with(t, 200, "a", "bc")
	all(t, l.Commit())
	was := told(l)
	f.Stop(1)
	refused(t, l, thirty, api.ErrStop)
	want := slices.Concat(fileOf(1, "a", "bc"), recordOf(3, thirty)[:21])
	if b, _ := f.Read(nameOf(1)); !bytes.Equal(b, want) || told(l) != was {
		t.Errorf("%q %s", b, told(l))
	}
	for range 2 {
		refused(t, l, thirty, api.ErrStop)
	}
	for _, why := range []api.Errno{l.Commit(), l.Drop(1)} {
		if why != api.ErrStop || told(l) != was {
			t.Error(why, told(l))
		}
	}
	f.Crash([]int{math.MaxInt}, 0)
	is(t, opened(t, f, 200), 1, 2, 2, []uint64{1}, "a", "bc")
}

// P10.2: where a record begins a file, the last one is Synced, the file Created, head and record Appended in one call: each refused in turn.
func TestAppendRefusedInANewFile(t *testing.T) {
	for n := 1; n <= 4; n++ {
		f, l := with(t, 64, thirty)
		all(t, l.Commit())
		appended(t, l, thirty, 2)
		f.Stop(n)
		g := f.Clone()
		why := g.Sync(nameOf(2))
		if why == api.OK {
			why = g.Create(nameOf(3))
		}
		if why == api.OK {
			why = g.Append(nameOf(3), fileOf(3, "abc"))
		}
		if n == 4 {
			appended(t, l, "abc", 3)
		} else {
			refused(t, l, "abc", api.ErrStop)
		}
		if (why == api.OK) != (n == 4) || stands(f) != stands(g) {
			t.Errorf("refused at %d: %s\nnot\n%s", n, stands(f), stands(g))
		}
		if n == 4 {
			is(t, l, 1, 3, 1, []uint64{1, 2, 3}, thirty, thirty, "abc")
			continue
		}
		if b, why := f.Read(nameOf(3)); n == 3 && !bytes.Equal(b, fileOf(3, "abc")[:(24+15)/2]) || n < 3 && why != api.ErrNone {
			t.Errorf("refused at %d: %q %v", n, b, why) // at the third the file stays, as a disk that has stopped Removes nothing
		}
		is(t, l, 1, 2, 1, []uint64{1, 2}, thirty, thirty)
		for _, why := range []api.Errno{l.Commit(), l.Drop(1)} {
			if why != api.ErrStop {
				t.Error(why)
			}
		}
		is(t, l, 1, 2, 1, []uint64{1, 2}, thirty, thirty)
		f.Crash([]int{math.MaxInt}, 2)
		l = opened(t, f, 64)
		appended(t, l, "abc", l.Last()+1)
		all(t, l.Drop(l.Last()))
		if got := texts(t, l); !slices.Equal(got, []string{"abc"}) {
			t.Errorf("refused at %d: %q", n, got)
		}
	}
}

// P10.2: of a log without files nothing is Synced.
func TestAppendRefusedAtTheFirst(t *testing.T) {
	for n := 1; n <= 3; n++ {
		f, l := with(t, 64)
		f.Stop(n)
		no, why := l.Append([]byte("abc"))
		b, e := f.Read(nameOf(1))
		switch n {
		case 1:
			if no != 0 || why != api.ErrStop || e != api.ErrNone {
				t.Error(n, no, why, e)
			}
		case 2:
			if no != 0 || why != api.ErrStop || !bytes.Equal(b, fileOf(1, "abc")[:19]) {
				t.Error(n, no, why, short(b))
			}
		case 3:
			if no != 1 || why != api.OK || !bytes.Equal(b, fileOf(1, "abc")) {
				t.Error(n, no, why, short(b))
			}
			continue
		}
		is(t, l, 1, 0, 0, nil)
		f.Crash([]int{9}, 1)
		l = opened(t, f, 64)
		is(t, l, 1, 0, 0, nil)
		appended(t, l, "x", 1)
	}
}

// P10.2: a disk that was stopped and goes on again, without a crash: the record that was refused is not there, the next one has its number, and is there behind what the disk put of the refused one.
func TestAppendWhereTheDiskGoesOn(t *testing.T) {
	f, l := with(t, 100, "a")
	f.Stop(1)
	refused(t, l, thirty, api.ErrStop)
	f.Stop(0)
	appended(t, l, "b", 2)
	appended(t, l, "c", 3)
	want := slices.Concat(fileOf(1, "a"), recordOf(2, thirty)[:21], recordOf(2, "b"), recordOf(3, "c"))
	if b, _ := f.Read(nameOf(1)); !bytes.Equal(b, want) {
		t.Errorf("%q, not %q", b, want)
	}
	is(t, l, 1, 3, 0, []uint64{1}, "a", "b", "c")
	all(t, l.Commit())
	is(t, l, 1, 3, 3, []uint64{1}, "a", "b", "c")

	// What the disk put there counts for how many bytes the file has.
	f, l = with(t, 64, "a")
	f.Stop(1)
	refused(t, l, strings.Repeat("x", 42), api.ErrStop) // 37 and 27: just full
	f.Stop(0)
	appended(t, l, "b", 2)
	is(t, l, 1, 2, 0, []uint64{1, 2}, "a", "b")

	// Refused at the last one's Sync, and at Create: nothing of it is left.
	for n := 1; n <= 2; n++ {
		f, l = with(t, 64, thirty)
		f.Stop(n)
		refused(t, l, "b", api.ErrStop)
		f.Stop(0)
		appended(t, l, "b", 2)
		is(t, l, 1, 2, 0, []uint64{1, 2}, thirty, "b")
		all(t, l.Drop(1))
		is(t, opened(t, f, 64), 2, 2, 2, []uint64{2}, "b")
	}

	// A file that was Created and could not be Removed is not the log's: it is in the way until the log is opened again.
	f, l = with(t, 64, thirty)
	f.Stop(3)
	refused(t, l, "b", api.ErrStop)
	f.Stop(0)
	refused(t, l, "b", api.ErrThere)
	all(t, l.Drop(5))
	is(t, l, 1, 1, 1, []uint64{1}, thirty)
	l = opened(t, f, 64)
	appended(t, l, "b", 2)
	is(t, l, 1, 2, 1, []uint64{1, 2}, thirty, "b")
}

// full lays another file that leaves so many bytes free.
func full(t *testing.T, f *simfs.FS, quota, free int) {
	t.Helper()
	if _, why := f.Size("else"); why != api.OK {
		all(t, f.Create("else"))
	}
	all(t, f.Cut("else", 0), f.Append("else", make([]byte, quota-f.Used()-free)))
}

// P10.2: a file that was Created is Removed again, if the disk has no room for head and record; the error is the first one, also if the Remove is refused, too.
func TestAppendRemovesAgain(t *testing.T) {
	for _, stop := range []int{0, 3, 4} {
		f := disk(t, 1000)
		l := opened(t, f, 64)
		appended(t, l, thirty, 1)
		all(t, l.Commit())
		full(t, f, 1000, 36)
		all(t, f.SyncNames())
		f.Stop(stop)
		refused(t, l, "b", api.ErrQuota)
		want := []string{"else", nameOf(1)}
		if stop == 3 {
			want = append(want, nameOf(2))
		}
		if !slices.Equal(f.List(), want) {
			t.Errorf("Stop(%d): %q", stop, f.List())
		}
		if open := map[int]int{0: 2, 3: 1, 4: 2}[stop]; f.Open() != open {
			t.Errorf("Stop(%d): %d changes of names are open", stop, f.Open())
		}
		is(t, l, 1, 1, 1, []uint64{1}, thirty)
		f.Stop(0)
		if stop != 3 {
			refused(t, l, "b", api.ErrQuota)
			full(t, f, 1000, 37)
			appended(t, l, "b", 2)
			is(t, l, 1, 2, 1, []uint64{1, 2}, thirty, "b")
		}
		f.Crash(nil, 1)
		if l := opened(t, f, 64); !slices.Equal(texts(t, l), []string{thirty}) {
			t.Error(told(l))
		}
	}
}

// P10.2: a disk that has no room for another file.
func TestAppendTooManyFiles(t *testing.T) {
	f, l := with(t, 64)
	for i := range api.MaxFiles {
		appended(t, l, thirty, uint64(i)+1)
	}
	was := told(l)
	for range 3 {
		refused(t, l, "b", api.ErrMany)
		if told(l) != was || len(f.List()) != api.MaxFiles {
			t.Fatal(told(l))
		}
	}
	all(t, l.Commit())
	refused(t, l, "b", api.ErrMany)
	all(t, l.Drop(2))
	appended(t, l, "b", 65)
	appended(t, l, thirty, 66)
	appended(t, l, "c", 67)
	if l.First() != 3 || l.Last() != 67 || len(l.Files()) != api.MaxFiles {
		t.Error(told(l))
	}
	appended(t, l, thirty, 68)
	refused(t, l, "d", api.ErrMany)
	all(t, l.Commit())
	is(t, opened(t, f, 64), 3, 68, 68, numbers(l), texts(t, l)...)
}
