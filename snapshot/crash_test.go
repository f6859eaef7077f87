package snapshot_test

import (
	"math/rand"
	"slices"
	"testing"

	"lockstep/api"
	"lockstep/simfs"
	"lockstep/snapshot"
)

// noneThere stands for there being no snapshot.
const noneThere = -1

// tells is which of the snapshots that `of` makes Latest tells, whole.
func tells(t *testing.T, f *simfs.FS, name string, what ...any) int {
	t.Helper()
	s, is, why := snapshot.Latest(f, name)
	if why != api.OK {
		t.Fatalf("%v: %v", what, why)
	}
	if !is {
		return noneThere
	}
	if told(s) != told(of(s.No)) {
		t.Fatalf("%v: %s", what, told(s))
	}
	return int(s.No)
}

// mayTell: Latest tells one of these, now and behind whatever crash; which ones it told.
func mayTell(t *testing.T, f *simfs.FS, name string, may []int, what ...any) []int {
	t.Helper()
	seen := []int{tells(t, f, name, what...)}
	for names := range f.Open() + 1 {
		for bytes := range 12 {
			for _, keeps := range [][]int{nil, {bytes * bytes}, {0, bytes * bytes * bytes}, {1 << 20, bytes}} {
				g := f.Clone()
				g.Crash(keeps, names)
				seen = append(seen, tells(t, g, name, what...))
				g.Crash(keeps, names+1)
				seen = append(seen, tells(t, g, name, what...))
			}
		}
	}
	for _, no := range seen {
		if !slices.Contains(may, no) {
			t.Fatalf("%v: %d, not one of %v, on %s", what, no, may, stands(f))
		}
	}
	slices.Sort(seen)
	return slices.Compact(seen)
}

// ahead are disks upon which 9 may be Saved, and which snapshot they have.
func ahead(t *testing.T) map[string]struct {
	f  *simfs.FS
	no int
} {
	type begin = struct {
		f  *simfs.FS
		no int
	}
	one := disk(t, 3000)
	all(t, snapshot.Save(one, "p0", of(7)))
	fresh, loose, lower, spoilt, full := one.Clone(), one.Clone(), one.Clone(), one.Clone(), one.Clone()
	lay(t, fresh, "p0.new", bytesOf(of(8)))
	all(t, loose.Create("p0.new"), loose.Append("p0.new", bytesOf(of(8))))
	for _, no := range []uint64{0, 2, 5} {
		lay(t, lower, fileOf("p0", no), bytesOf(of(no)))
	}
	lay(t, spoilt, fileOf("p0", 8), bytesOf(of(8))[:40])
	lay(t, full, "else", make([]byte, 3000-full.Used()-10))
	return map[string]begin{
		"empty": {disk(t, 3000), noneThere}, "one": {one, 7}, "a fresh one": {fresh, 7}, "a loose one": {loose, 7},
		"lower ones": {lower, 7}, "a spoilt one": {spoilt, 7}, "full": {full, 7},
	}
}

// P12.5: a crash at whatever call within a Save, and behind one that was refused without a crash: the one Saved last ahead, or the new one; each of them comes.
func TestCrashWithinASave(t *testing.T) {
	t.Parallel()
	for what, x := range ahead(t) {
		var seen []int
		for n := 1; n < 12; n++ {
			f := x.f.Clone()
			f.Stop(n)
			why := snapshot.Save(f, "p0", of(9))
			may := []int{x.no, 9}
			if why == api.OK {
				may = []int{9}
			}
			seen = append(seen, mayTell(t, f, "p0", may, what, n)...)
			f.Stop(0)
			seen = append(seen, mayTell(t, f, "p0", may, what, n, "gone on")...)
		}
		want := []int{x.no, 9}
		if what == "full" {
			want = want[:1]
		}
		slices.Sort(seen)
		if seen = slices.Compact(seen); !slices.Equal(seen, want) {
			t.Errorf("%s: %v", what, seen)
		}
	}
}

// P12.5: behind a Save that answered OK, and a crash, the new one.
func TestCrashBehindASave(t *testing.T) {
	for what, x := range ahead(t) {
		f := x.f.Clone()
		if what == "full" {
			if why := snapshot.Save(f, "p0", of(9)); why != api.ErrQuota {
				t.Error(why)
			}
			mayTell(t, f, "p0", []int{7}, what)
			continue
		}
		for _, no := range []uint64{9, 10, 0x20} {
			all(t, snapshot.Save(f, "p0", of(no)))
			mayTell(t, f, "p0", []int{int(no)}, what, no)
			if f.Open() != 0 || len(f.List()) != 1 {
				t.Errorf("%s: %s", what, stands(f))
			}
		}
	}
}

// P12.5: a Save that comes upon what a crash left of another one, which itself crashes, and so on.
func TestCrashUponCrash(t *testing.T) {
	t.Parallel()
	var saves func(f *simfs.FS, no uint64, had int)
	saves = func(f *simfs.FS, no uint64, had int) {
		for n := 1; n <= 9; n++ {
			g := f.Clone()
			g.Stop(n)
			why := snapshot.Save(g, "p0", of(no))
			may := []int{had, int(no)}
			if why == api.OK {
				may = may[1:]
			}
			mayTell(t, g, "p0", may, no, n)
			if no == 10 {
				continue
			}
			for names := range g.Open() + 1 {
				h := g.Clone()
				h.Crash([]int{50}, names)
				saves(h, no+1, tells(t, h, "p0"))
			}
		}
	}
	for _, x := range []string{"empty", "a loose one", "lower ones"} {
		begin := ahead(t)[x]
		saves(begin.f, 9, begin.no)
	}
}

// P12.5: long lives, from crash to crash, with Saves under two names, refused and not, on disks that are full now and then. What may be told is what was told behind the last crash, or a Save that answered OK, and all that was refused since.
func TestCrashAgainAndAgain(t *testing.T) {
	t.Parallel()
	r := rand.New(rand.NewSource(8))
	for life := range 250 {
		f := disk(t, 300+r.Intn(1500))
		may := map[string][]int{"p0": {noneThere}, "p1": {noneThere}}
		next := map[string]uint64{"p0": 1, "p1": 5}
		for range 40 {
			name := []string{"p0", "p1"}[r.Intn(2)]
			switch r.Intn(4) {
			case 0:
				f.Crash([]int{r.Intn(300), r.Intn(100)}[:r.Intn(3)], r.Intn(9))
				for _, name := range []string{"p0", "p1"} {
					now := tells(t, f, name, life)
					if !slices.Contains(may[name], now) {
						t.Fatalf("life %d: %d, not one of %v", life, now, may[name])
					}
					may[name] = []int{now}
				}
			case 1:
				f.Create("else")
				f.Cut("else", 0)
				f.Append("else", make([]byte, r.Intn(900)))
			default:
				f.Stop(max(0, r.Intn(24)-12))
				no := next[name]
				why := snapshot.Save(f, name, of(no))
				may[name] = append(may[name], int(no))
				if why == api.OK {
					may[name] = []int{int(no)}
				}
				next[name] = no + 1 + uint64(r.Intn(3))
			}
			f.Stop(0)
			for name, may := range may {
				if now := tells(t, f, name, life); !slices.Contains(may, now) {
					t.Fatalf("life %d: %d, not one of %v", life, now, may)
				}
			}
		}
	}
}
