package simfs_test

import (
	"math"
	"math/rand"
	"strings"
	"testing"

	"lockstep/api"
	"lockstep/simfs"
)

// The examples of the chapter.
func TestExamples(t *testing.T) {
	f := disk(t, 100)
	all(t, f.Create("a"), f.Append("a", []byte("xyz")), f.Sync("a"), f.Append("a", []byte("uv")), f.SyncNames())
	f.Crash([]int{1}, 0)
	stands(t, f, "a:xyzu|")

	g := disk(t, 100)
	all(t, g.Create("a"), g.Append("a", []byte("x")), g.Sync("a"))
	g.Crash([]int{}, 0)
	stands(t, g, "")

	h := disk(t, 100)
	all(t, h.Create("a"), h.Append("a", []byte("1")), h.Sync("a"), h.SyncNames(), h.Create("b"), h.Rename("b", "a"))
	h.Crash([]int{}, 1)
	stands(t, h, "a:1| b:|")
}

// P4.3: of the open changes the first ones stay, as many as the remainder of names by one more than there are.
func TestCrashNames(t *testing.T) {
	steps := []string{"a:1| b:2|", "b:2|", "c:2|", "c:2| d:|", "c:|", "c:| e:|"}
	for names, stay := range map[int]int{
		0: 0, 1: 1, 2: 2, 3: 3, 4: 4, 5: 5, 6: 0, 7: 1, 11: 5, 12: 0, 600: 0, 604: 4,
		-1: 0, -5: 0, -7: 0, math.MinInt: 0, math.MaxInt: math.MaxInt % 6,
	} {
		f := with(t, 10, "a", "1", "b", "2")
		all(t, f.Remove("a"), f.Rename("b", "c"), f.Create("d"), f.Rename("d", "c"), f.Create("e"))
		if f.Open() != 5 {
			t.Fatal(f.Open())
		}
		f.Crash(nil, names)
		stands(t, f, steps[stay])
		if f.Open() != 0 {
			t.Error(f.Open())
		}
	}
}

// P4.3: files get the names back that they had, with the bytes that they have now, also if they lost them all; what has no name then is gone.
func TestCrashGivesBack(t *testing.T) {
	f := with(t, 10, "a", "xyz")
	all(t, f.Rename("a", "b"), f.Append("b", []byte("uv")), f.Cut("b", 4), f.Rename("b", "c"), f.Sync("c"), f.Append("c", []byte("w")), f.Remove("c"), f.Create("a"), f.Append("a", []byte("new")), f.Sync("a"))
	for names, want := range []string{"a:xyzuw|", "b:xyzuw|", "c:xyzuw|", "", "a:new|"} {
		g := f.Clone()
		g.Crash([]int{1}, names)
		stands(t, g, want)
		if again := g.Clone(); again.Create("z") != api.OK {
			t.Error("the disk goes on")
		}
		g.Crash([]int{5}, 5)
		stands(t, g, want)
	}

	// A name that two files had, one behind the other, and lost again.
	g := with(t, 20, "a", "1")
	all(t, g.Remove("a"), g.Create("a"), g.Append("a", []byte("22")), g.Sync("a"), g.Remove("a"), g.Create("b"), g.Rename("b", "a"))
	for names, want := range []string{"a:1|", "", "a:22|", "", "b:|", "a:|"} {
		h := g.Clone()
		h.Crash(nil, names)
		stands(t, h, want)
	}
}

// P4.3: of each file with bytes that do not stand fast, by the names, the next number of keeps, round about.
func TestCrashKeeps(t *testing.T) {
	for _, x := range []struct {
		keeps []int
		want  string
	}{
		{nil, "a:x| b:yy| c:| d:z| e:|"},
		{[]int{}, "a:x| b:yy| c:| d:z| e:|"},
		{[]int{0}, "a:x| b:yy| c:| d:z| e:|"},
		{[]int{-1}, "a:x| b:yy| c:| d:z| e:|"},
		{[]int{math.MinInt, -5}, "a:x| b:yy| c:| d:z| e:|"},
		{[]int{1}, "a:x1| b:yy| c:3| d:z4| e:|"},
		{[]int{2}, "a:x12| b:yy| c:33| d:z| e:|"},
		{[]int{3}, "a:x| b:yy| c:333| d:z4| e:|"},
		{[]int{4}, "a:x1| b:yy| c:| d:z| e:|"},
		{[]int{5, 7, 9}, "a:x12| b:yy| c:333| d:z4| e:|"},
		{[]int{1, 2}, "a:x1| b:yy| c:33| d:z4| e:|"},
		{[]int{-1, 2}, "a:x| b:yy| c:33| d:z| e:|"},
		{[]int{0, 1, 1}, "a:x| b:yy| c:3| d:z4| e:|"},
		{[]int{0, 0, 0, 1}, "a:x| b:yy| c:| d:z| e:|"},
		{[]int{math.MaxInt}, "a:x" + "12"[:math.MaxInt%3] + "| b:yy| c:" + "333"[:math.MaxInt%4] + "| d:z" + "4"[:math.MaxInt%2] + "| e:|"},
	} {
		f := with(t, 100, "d", "z", "a", "x", "e", "", "c", "", "b", "yy")
		all(t, f.Append("c", []byte("333")), f.Append("d", []byte("4")), f.Append("a", []byte("12")))
		f.Crash(x.keeps, 0)
		stands(t, f, x.want)
	}

	// First of names, then of bytes: by the names that are there then.
	f := with(t, 100, "a", "", "b", "")
	all(t, f.Append("a", []byte("111")), f.Append("b", []byte("222")), f.Rename("a", "z"), f.Create("m"), f.Append("m", []byte("333")))
	for names, want := range []string{"a:1| b:22|", "b:2| z:11|", "b:2| m:33| z:111|"} {
		g := f.Clone()
		g.Crash([]int{1, 2, 3}, names)
		stands(t, g, want)
	}
}

// goOn does some calls on a disk, none of them a Crash or a Stop.
func goOn(r *rand.Rand, f *simfs.FS, n int) {
	for range n {
		if a := randomAct(r, []string{"a", "b", "c", "d", "e"}); a.what != "crash" && a.what != "stop" {
			do(f, a)
		}
	}
}

// script is what a crash is told.
func script(r *rand.Rand) ([]int, int) {
	a := act{}
	for a.what != "crash" {
		a = randomAct(r, []string{"a"})
	}
	return a.keeps, a.n
}

// P4.4: what stood fast stays, of names that were not changed since; of the others a beginning.
func TestFastStays(t *testing.T) {
	r := rand.New(rand.NewSource(44))
	for range 3000 {
		f := disk(t, 80)
		goOn(r, f, 30)
		f.SyncNames()
		changed := ""
		for range r.Intn(20) {
			a := randomAct(r, []string{"a", "b", "c", "d", "e"})
			if a.what == "crash" || a.what == "stop" || a.what == "syncnames" {
				continue
			}
			if why := do(f, a); why == api.OK && (a.what == "create" || a.what == "rename" || a.what == "remove") {
				changed += a.name + a.to
			}
		}
		was := f.Image()
		keeps, names := script(r)
		f.Crash(keeps, names)
		for _, e := range was {
			if strings.Contains(changed, e.Name) {
				continue
			}
			b, why := f.Read(e.Name)
			if why != api.OK || len(b) < e.Fast || !strings.HasPrefix(string(e.B), string(b)) {
				t.Fatalf("%v: %q %v behind Crash(%v, %d)", e, b, why, keeps, names)
			}
		}
	}
}

// P4.5: a file that was written under another name, Synced and renamed: the name stands for the old one, or for the new one, whole; whatever the script says, and wherever the disk stops.
func TestAllOrNothing(t *testing.T) {
	for stop := range 10 {
		for names := range 5 {
			for keep := -1; keep < 8; keep++ {
				f := with(t, 100, "name", "old")
				f.Stop(stop)
				told := true
				for _, change := range []func() api.Errno{
					func() api.Errno { return f.Create("new") },
					func() api.Errno { return f.Append("new", []byte("ne")) },
					func() api.Errno { return f.Append("new", []byte("wer")) },
					func() api.Errno { return f.Sync("new") },
					func() api.Errno { return f.Rename("new", "name") },
					func() api.Errno { return f.SyncNames() },
				} {
					if told = change() == api.OK; !told {
						break
					}
				}
				f.Crash([]int{keep}, names)
				b, why := f.Read("name")
				if s := string(b); why != api.OK || s != "newer" && (s != "old" || told) {
					t.Errorf("stopped at %d, Crash({%d}, %d): %q %v", stop, keep, names, s, why)
				}
			}
		}
	}
}

// P4.6: a second Crash changes nothing, nor does one with all synced.
func TestCrashOnce(t *testing.T) {
	r := rand.New(rand.NewSource(46))
	for i := range 2000 {
		f := disk(t, 60)
		goOn(r, f, 40)
		if i%2 == 0 {
			f.Crash(script(r))
		} else {
			for _, name := range f.List() {
				all(t, f.Sync(name))
			}
			all(t, f.SyncNames())
		}
		was := told(f, nil)
		for _, e := range f.Image() {
			if e.Fast != len(e.B) {
				t.Fatalf("%v: all stands fast", e)
			}
		}
		for range 3 {
			f.Crash(script(r))
			if got := told(f, nil); got != was {
				t.Fatalf("%s\nnot\n%s", got, was)
			}
		}
	}
}

// P4.7: Used is never above quota, but where a Crash gives names back; then nothing is put there until there is room again.
func TestRoom(t *testing.T) {
	r := rand.New(rand.NewSource(47))
	for range 1000 {
		quota := r.Intn(40)
		f := disk(t, quota)
		for range 60 {
			lost := false
			a := randomAct(r, []string{"a", "b", "c", "d"})
			if a.what == "crash" {
				lost = f.Open() > 0
			}
			was := f.Used()
			do(f, a)
			if used := f.Used(); used > quota && used > was && !lost {
				t.Fatalf("%v: %d bytes of %d", a, used, quota)
			}
		}
	}

	f := with(t, 5, "a", "1234")
	all(t, f.Remove("a"), f.Create("b"), f.Append("b", []byte("12345")), f.Sync("b"), f.SyncNames(), f.Create("c"), f.Rename("b", "c"))
	f.Crash(nil, 1)
	stands(t, f, "b:12345| c:|")

	g := with(t, 5, "a", "1234", "b", "")
	all(t, g.Remove("a"), g.Append("b", []byte("12345")), g.Sync("b"))
	g.Crash(nil, 0)
	stands(t, g, "a:1234| b:12345|")
	if g.Used() != 9 {
		t.Error(g.Used())
	}
	for _, b := range []string{"", "x"} {
		if e := g.Append("a", []byte(b)); e != api.ErrQuota {
			t.Error("beyond the quota already:", e)
		}
	}
	all(t, g.Cut("a", 1), g.Cut("b", 3), g.Append("a", []byte("x")))
	if e := g.Append("a", []byte("x")); e != api.ErrQuota || g.Used() != 5 {
		t.Error(e, g.Used())
	}
}
