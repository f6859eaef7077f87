package cmdlog_test

import (
	"math/rand"
	"slices"
	"testing"

	"lockstep/api"
	"lockstep/cmdlog"
	"lockstep/simfs"
)

// truth is what was asked of a log, as its caller knows it.
type truth struct {
	said    map[uint64]string // what was Appended
	last    uint64
	fast    uint64
	firsts  []uint64 // what may be First behind a crash: what it was since the last Drop began (of those that were asked ahead of the disk's stopping)
	stopped bool
}

// ask makes a call of a log and keeps what came of it.
func (k *truth) ask(t *testing.T, l *cmdlog.Log, a act) api.Errno {
	t.Helper()
	why := api.OK
	switch a.what {
	case "append":
		var no uint64
		if no, why = l.Append([]byte(a.text)); why == api.OK {
			if no != k.last+1 {
				t.Fatalf("%d behind %d", no, k.last)
			}
			k.last = no
			k.said[no] = a.text
		}
	case "commit":
		why = l.Commit()
	case "drop":
		firsts := append(numbers(l), l.First())
		why = l.Drop(a.upto)
		if !k.stopped {
			k.firsts = slices.DeleteFunc(firsts, func(no uint64) bool { return no > l.First() })
		}
	}
	k.fast = l.Fast()
	k.stopped = k.stopped || why == api.ErrStop
	return why
}

// behind opens a log behind a crash and holds it against what was asked; opened again at once it is the same.
func (k *truth) behind(t *testing.T, f *simfs.FS, what ...any) *cmdlog.Log {
	t.Helper()
	was := stands(f)
	l, why := cmdlog.Open(f, "log", 64)
	if why != api.OK {
		t.Fatalf("%v: %v of %s", what, why, was)
	}
	if !slices.Contains(k.firsts, l.First()) || l.Last() < k.fast || l.Last() > k.last || l.Fast() != l.Last() {
		t.Fatalf("%v: %s; %v, %d were fast, %d there", what, told(l), k.firsts, k.fast, k.last)
	}
	for i, text := range texts(t, l) {
		if no := l.First() + uint64(i); text != k.said[no] {
			t.Fatalf("%v: %d is %q, not %q", what, no, text, k.said[no])
		}
	}
	said, now := told(l), stands(f)
	again, why := cmdlog.Open(f, "log", 64)
	if why != api.OK || told(again) != said || stands(f) != now {
		t.Fatalf("%v: opened again %v %s %s\nnot\n%s %s", what, why, told(again), stands(f), said, now)
	}
	return l
}

func newTruth() *truth { return &truth{said: map[uint64]string{}, firsts: []uint64{1}} }

// goings are what is asked of a log, one call behind the other.
func goings() [][]act {
	a, b, x := act{what: "append", text: "a"}, act{what: "append", text: "bcd"}, act{what: "append", text: thirty}
	none, commit := act{what: "append"}, act{what: "commit"}
	drop := func(upto uint64) act { return act{what: "drop", upto: upto} }
	return [][]act{
		{a, b, none, commit, a, commit, commit},
		{x, x, x, a, commit, b, x, x},
		{x, commit, x, x, commit, x, drop(2), a, x, drop(9), x},
		{a, x, b, x, a, x, drop(1), drop(2), x, x, drop(7), commit, a},
		{commit, drop(3), x, drop(0), x, drop(1), x, drop(2), none, none},
	}
}

// crashes tries all that a crash may leave: each number of names, and of bytes as many as a script says.
func crashes(t *testing.T, f *simfs.FS, k *truth, what ...any) {
	t.Helper()
	for names := range f.Open() + 1 {
		for bytes := range 90 {
			for _, keeps := range [][]int{{bytes}, {bytes, 0, 66}, {1000, bytes}} {
				g := f.Clone()
				g.Crash(keeps, names)
				k.behind(t, g, append(what, "keeps", keeps, "names", names)...)
			}
		}
	}
}

// asked is a disk, and what was asked of a log on it, on which a going went on until the disk stopped at its n-th change (0: never), and whether it did.
func asked(t *testing.T, going []act, n int) (*simfs.FS, *truth, bool) {
	t.Helper()
	f, k := disk(t, 10000), newTruth()
	l := opened(t, f, 64)
	f.Stop(n)
	for _, a := range going {
		if why := k.ask(t, l, a); why != api.OK {
			return f, k, true
		}
	}
	return f, k, false
}

// P10.4, P10.5: a crash behind each call, whatever it leaves.
func TestCrashBehindEachCall(t *testing.T) {
	t.Parallel()
	for i, going := range goings() {
		for n := range going {
			f, k, _ := asked(t, going[:n+1], 0)
			crashes(t, f, k, "going", i, "behind", n)
		}
	}
}

// P10.4, P10.5: a crash at each change of the disk, whatever it leaves.
func TestCrashAtEachChange(t *testing.T) {
	t.Parallel()
	for i, going := range goings() {
		n := 1
		for f, k, stopped := asked(t, going, n); stopped; f, k, stopped = asked(t, going, n) {
			crashes(t, f, k, "going", i, "stopped at", n)
			n++
		}
		if n < len(going) {
			t.Errorf("going %d: but %d changes", i, n)
		}
	}
}

// P10.4, P10.5: a crash in Open itself, at each of its changes, and in the Open behind that.
func TestCrashInOpen(t *testing.T) {
	t.Parallel()
	for i, going := range goings() {
		n := 1
		for f, k, stopped := asked(t, going, n); stopped; f, k, stopped = asked(t, going, n) {
			for names := range f.Open() + 1 {
				for _, bytes := range []int{0, 1, 12, 20, 24, 30, 41, 65} {
					g := f.Clone()
					g.Crash([]int{bytes}, names)
					crashOpen(t, g, k, 2, "going", i, "stopped at", n, "names", names, "bytes", bytes)
				}
			}
			n++
		}
	}
}

// crashOpen opens on a disk that stops at each change in turn, crashes that, and opens again, so many times in one another.
func crashOpen(t *testing.T, f *simfs.FS, k *truth, depth int, what ...any) {
	t.Helper()
	if depth == 0 {
		k.behind(t, f, what...)
		return
	}
	for n := 1; ; n++ {
		g := f.Clone()
		g.Stop(n)
		l, why := cmdlog.Open(g, "log", 64)
		if why == api.OK {
			return
		}
		if l != nil || why != api.ErrStop {
			t.Fatalf("%v: %v", what, why)
		}
		for names := range g.Open() + 1 {
			h := g.Clone()
			h.Crash([]int{7, 40}, names)
			crashOpen(t, h, k, depth-1, append(what, n, names)...)
		}
	}
}

// P10.4, P10.5: long lives, from crash to crash, on disks that are full now and then, too.
func TestCrashAgainAndAgain(t *testing.T) {
	t.Parallel()
	r := rand.New(rand.NewSource(12))
	for life := range 400 {
		f, k := disk(t, 300+r.Intn(3000)), newTruth()
		l := opened(t, f, 64)
		for range 30 {
			if r.Intn(3) > 0 {
				f.Stop(1 + r.Intn(40))
			}
			for range r.Intn(40) {
				a := randomAct(r)
				if a.what == "drop" {
					a.upto = l.First() + uint64(r.Intn(12)) - 2
				}
				if a.what == "append" || a.what == "commit" || a.what == "drop" {
					if k.ask(t, l, a) == api.ErrStop && r.Intn(4) > 0 {
						break
					}
				}
			}
			f.Crash([]int{r.Intn(300), r.Intn(100), r.Intn(20)}[:r.Intn(4)], r.Intn(10))
			for r.Intn(3) == 0 { // Open crashes, too
				f.Stop(1 + r.Intn(3))
				cmdlog.Open(f, "log", 64)
				f.Crash([]int{r.Intn(100)}, r.Intn(3))
			}
			l = k.behind(t, f, "life", life)
			k = &truth{said: k.said, last: l.Last(), fast: l.Last(), firsts: []uint64{l.First()}}
		}
	}
}

// P10.4: what was committed is there though nothing else of what was not fast stays; and what was not may be there, as far as the disk kept it.
func TestCrashKeepsWhatItMay(t *testing.T) {
	f, l := with(t, 64, "a", "b")
	all(t, l.Commit())
	appended(t, l, thirty, 3)
	appended(t, l, thirty, 4)
	appended(t, l, "c", 5)
	for names, want := range [][]uint64{{3, 1}, {4, 1, 4}, {5, 1, 4, 5}} {
		g := f.Clone()
		g.Crash([]int{37}, names) // of 4 all is fast, as the file behind was begun; of 5 there are 37 bytes
		l := opened(t, g, 64)
		is(t, l, 1, want[0], want[0], want[1:], []string{"a", "b", thirty, thirty, "c"}[:want[0]]...)
	}
	g := f.Clone()
	g.Crash(nil, 0)
	is(t, opened(t, g, 64), 1, 3, 3, []uint64{1}, "a", "b", thirty) // Synced when 4 was begun
	g = f.Clone()
	g.Crash([]int{36}, 2)
	is(t, opened(t, g, 64), 1, 4, 4, []uint64{1, 4}, "a", "b", thirty, thirty)
}

// P10.5: opened again at once, of whatever Open had to mend.
func TestOpenTwice(t *testing.T) {
	for _, no := range []uint64{1, 3} {
		last := flawed(no)
		last["torn"] = slices.Concat(fileOf(no, "a"), []byte("torn"))
		last["whole"] = fileOf(no, "a", thirty)
		for what, b := range last {
			f := disk(t, 1000)
			if no == 3 {
				lay(t, f, nameOf(1), fileOf(1, "x", "y"), 5)
			}
			lay(t, f, nameOf(no), b, len(b)/2)
			l := opened(t, f, 64)
			was, said := stands(f), told(l)
			for _, size := range []int{64, 100, 1 << 22} {
				if again := opened(t, f, size); told(again) != said || stands(f) != was {
					t.Errorf("%s: %s %s\nnot\n%s %s", what, told(again), stands(f), said, was)
				}
			}
			f.Crash([]int{1}, 1)
			if stands(f) != was {
				t.Errorf("%s: not all stands fast", what)
			}
		}
	}
}
