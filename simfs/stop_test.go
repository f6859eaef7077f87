package simfs_test

import (
	"math"
	"slices"
	"testing"

	"lockstep/api"
	"lockstep/simfs"
)

// changes is one of each kind, each of which goes on a disk with a: xyz, b: uv.
func changes() []act {
	return []act{
		{what: "create", name: "c"},
		{what: "append", name: "a", b: "12345"},
		{what: "append", name: "a", b: "1234"},
		{what: "append", name: "a", b: "1"},
		{what: "append", name: "a"},
		{what: "cut", name: "a", n: 1},
		{what: "cut", name: "a", n: 3},
		{what: "rename", name: "a", to: "b"},
		{what: "rename", name: "a", to: "d"},
		{what: "rename", name: "a", to: "a"},
		{what: "remove", name: "b"},
		{what: "sync", name: "a"},
		{what: "sync", name: "b"},
		{what: "syncnames"},
	}
}

func ready(t *testing.T) *simfs.FS {
	t.Helper()
	f := with(t, 20, "a", "xy", "b", "u", "e", "")
	all(t, f.Append("a", []byte("z")), f.Append("b", []byte("v")), f.Create("f"))
	return f
}

// P4.8: at each kind of change: it does nothing and says ErrStop, but of an Append the first half of its bytes is there; nor do all further ones do anything.
func TestStopAtEach(t *testing.T) {
	for _, a := range changes() {
		f := ready(t)
		was := told(f, nil)
		f.Stop(1)
		if told(f, nil) != was {
			t.Error("Stop alone changes nothing")
		}
		if why := do(f, a); why != api.ErrStop {
			t.Errorf("%v: %v", a, why)
		}
		if half := len(a.b) / 2; half > 0 {
			if b, _ := f.Read("a"); string(b) != "xyz"+a.b[:half] || f.Used() != 5+half {
				t.Errorf("%v: %q", a, b)
			}
			if n, _ := f.Fast("a"); n != 2 {
				t.Errorf("%v: %d stand fast", a, n)
			}
			was = told(f, nil)
		}
		if told(f, nil) != was {
			t.Errorf("%v: %s", a, told(f, nil))
		}
		for _, further := range changes() {
			if why := do(f, further); why != api.ErrStop || told(f, nil) != was {
				t.Errorf("%v behind %v: %v %s", further, a, why, told(f, nil))
			}
		}
	}
}

// P4.8: just what would answer OK is a change: other calls are not counted, and answer as they do, ahead of it and behind.
func TestStopCountsChanges(t *testing.T) {
	f := ready(t)
	others := func() {
		t.Helper()
		want := []api.Errno{api.ErrThere, api.ErrName, api.ErrNone, api.ErrQuota, api.ErrArg, api.ErrNone, api.ErrNone, api.ErrName, api.ErrNone, api.ErrName}
		got := []api.Errno{f.Create("a"), f.Create(""), f.Append("z", nil), f.Append("a", make([]byte, 99)), f.Cut("a", -1), f.Cut("z", 0), f.Rename("z", "z"), f.Rename("a", ""), f.Remove("z"), f.Sync(" ")}
		if !slices.Equal(got, want) {
			t.Errorf("%v, not %v", got, want)
		}
		told(f, []string{"a", "b", "z", ""})
		f.Clone().SyncNames()
	}
	f.Stop(4)
	for range 3 {
		others()
		all(t, f.Rename("a", "a"))
	}
	for range 3 {
		others()
		if why := f.Rename("a", "a"); why != api.ErrStop {
			t.Error(why)
		}
	}
}

// P4.8: ErrMany is told by a disk that has stopped, too.
func TestStoppedAndFull(t *testing.T) {
	f := disk(t, 10)
	for i := range api.MaxFiles {
		all(t, f.Create("n"+string(rune('0'+i))))
	}
	f.Stop(1)
	for range 2 {
		if e := f.Create("x"); e != api.ErrMany {
			t.Error(e)
		}
	}
	if e := f.SyncNames(); e != api.ErrStop || f.Open() != api.MaxFiles {
		t.Error(e, f.Open())
	}
}

// P4.8: which change it is, and that of an Append half is put there at the n-th one alone.
func TestStopAtTheNth(t *testing.T) {
	for n := 1; n <= 6; n++ {
		f := with(t, 100, "a", "")
		f.Stop(n)
		want := ""
		for i := 1; i <= 8; i++ {
			why := f.Append("a", []byte("123"))
			switch {
			case i < n:
				want += "123"
			case i == n:
				want += "1"
			}
			if b, _ := f.Read("a"); string(b) != want || (why == api.OK) != (i < n) || i >= n && why != api.ErrStop {
				t.Errorf("Stop(%d), change %d: %q %v", n, i, b, why)
			}
		}
	}
	for _, n := range []int{1000, math.MaxInt} {
		f := with(t, 100, "a", "")
		f.Stop(n)
		for range 999 {
			all(t, f.Sync("a"))
		}
		if why := f.Sync("a"); (why == api.ErrStop) != (n == 1000) {
			t.Error(n, why)
		}
	}
}

// P4.8: an Append that would go beyond the quota is none at which the disk stops, though its half would have room.
func TestStopAndQuota(t *testing.T) {
	f := with(t, 5, "a", "xy")
	f.Stop(1)
	if e := f.Append("a", []byte("1234")); e != api.ErrQuota || f.Used() != 2 {
		t.Error(e, f.Used())
	}
	if e := f.Append("a", []byte("123")); e != api.ErrStop {
		t.Error(e)
	}
	stands(t, f, "a:xy|1")
	if e := f.Append("a", []byte("123")); e != api.ErrQuota {
		t.Error(e)
	}
}

// P4.8: of a number below 1 all is done again; the last Stop counts, from itself on.
func TestStopBehindStop(t *testing.T) {
	for _, n := range []int{0, -1, math.MinInt} {
		for _, stopped := range []bool{false, true} {
			f := with(t, 100, "a", "")
			f.Stop(2)
			all(t, f.Sync("a"))
			if stopped {
				f.Sync("a")
				f.Sync("a")
			}
			f.Stop(n)
			for range 5 {
				all(t, f.Sync("a"), f.Append("a", []byte("x")))
			}
		}
	}
	for first := range 6 {
		for done := range 8 {
			for second := 1; second < 5; second++ {
				f := with(t, 100, "a", "")
				f.Stop(first)
				for range done {
					f.Sync("a")
				}
				f.Stop(second)
				var got []api.Errno
				for range 6 {
					got = append(got, f.Sync("a"))
				}
				want := slices.Concat(slices.Repeat([]api.Errno{api.OK}, second-1), slices.Repeat([]api.Errno{api.ErrStop}, 7-second))
				if !slices.Equal(got, want) {
					t.Errorf("Stop(%d), %d changes, Stop(%d): %v", first, done, second, got)
				}
			}
		}
	}
}

// P4.8: a Crash ends a Stop, whether its change has come or not; what a stopped disk refused is not there.
func TestStopEndsByCrash(t *testing.T) {
	for n := 1; n < 5; n++ {
		f := with(t, 100, "a", "")
		f.Stop(n)
		for range 2 {
			f.Append("a", []byte("xyz"))
		}
		f.Crash([]int{0}, 0)
		stands(t, f, "a:|")
		for range 6 {
			all(t, f.Append("a", []byte("1")), f.Create("b"), f.SyncNames(), f.Rename("b", "c"), f.Remove("c"))
		}
	}
	f := with(t, 100, "a", "x")
	f.Stop(1)
	if e := f.Append("a", []byte("1234567")); e != api.ErrStop {
		t.Error(e)
	}
	if e := f.Sync("a"); e != api.ErrStop {
		t.Error(e)
	}
	f.Crash([]int{2}, 0)
	stands(t, f, "a:x12|")
}

// P4.8: a Clone has the Stop, too, and counts on alone.
func TestStopOfAClone(t *testing.T) {
	f := with(t, 100, "a", "")
	f.Stop(3)
	all(t, f.Sync("a"))
	g := f.Clone()
	all(t, g.Sync("a"))
	h := g.Clone()
	if e := g.Append("a", []byte("12")); e != api.ErrStop {
		t.Error(e)
	}
	stopped := g.Clone()
	if e := stopped.Append("a", []byte("34")); e != api.ErrStop {
		t.Error(e)
	}
	stands(t, stopped, "a:|1")
	all(t, f.Sync("a"))
	if e := f.Sync("a"); e != api.ErrStop {
		t.Error(e)
	}
	if e := h.Append("a", []byte("56")); e != api.ErrStop {
		t.Error(e)
	}
	stands(t, h, "a:|5")
	h.Stop(0)
	all(t, h.Sync("a"))
	if e := g.Sync("a"); e != api.ErrStop {
		t.Error("a Stop of a Clone is its own", e)
	}
	g.Crash(nil, 0)
	all(t, g.Sync("a"))
	if e := stopped.Sync("a"); e != api.ErrStop {
		t.Error("a Crash of a disk is its own", e)
	}
}
