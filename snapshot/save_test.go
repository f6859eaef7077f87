package snapshot_test

import (
	"bytes"
	"fmt"
	"math/rand"
	"slices"
	"strconv"
	"strings"
	"testing"

	"lockstep/api"
	"lockstep/simfs"
	"lockstep/snapshot"
)

// saveByHand makes the calls that the document lists, one behind the other, on a disk.
func saveByHand(f *simfs.FS, name string, s api.Snap) api.Errno {
	fresh, b := name+".new", bytesOf(s)
	if slices.Contains(f.List(), fresh) {
		if why := f.Remove(fresh); why != api.OK {
			return why
		}
	}
	if why := f.Create(fresh); why != api.OK {
		return why
	}
	if why := f.Append(fresh, b); why != api.OK {
		f.Remove(fresh)
		return why
	}
	if why := f.Sync(fresh); why != api.OK {
		f.Remove(fresh)
		return why
	}
	if why := f.Rename(fresh, fileOf(name, s.No)); why != api.OK {
		f.Remove(fresh)
		return why
	}
	if why := f.SyncNames(); why != api.OK {
		return why
	}
	for _, file := range f.List() {
		digits, is := strings.CutPrefix(file, name+".")
		if !is || len(digits) != 16 || strings.Trim(digits, "0123456789abcdef") != "" {
			continue
		}
		if no, _ := strconv.ParseUint(digits, 16, 64); no < s.No {
			if why := f.Remove(file); why != api.OK {
				return why
			}
		}
	}
	return f.SyncNames()
}

// both Saves by the program and by hand: what they answer, and both disks, are the same, behind whatever crash, too.
func both(t *testing.T, f *simfs.FS, name string, s api.Snap, what ...any) api.Errno {
	t.Helper()
	g := f.Clone()
	why, want := snapshot.Save(f, name, s), saveByHand(g, name, s)
	if why != want || stands(f) != stands(g) || f.Used() != g.Used() {
		t.Fatalf("%v: %v %s\nnot\n%v %s", what, why, stands(f), want, stands(g))
	}
	for names := range f.Open() + 1 {
		for _, keeps := range [][]int{nil, {1}, {9, 0, 1000}} {
			c, d := f.Clone(), g.Clone()
			c.Crash(keeps, names)
			d.Crash(keeps, names)
			if stands(c) != stands(d) {
				t.Fatalf("%v: behind a crash %s\nnot\n%s", what, stands(c), stands(d))
			}
		}
	}
	return why
}

// beginnings are disks upon which a Save may come.
func beginnings(t *testing.T) map[string]*simfs.FS {
	empty := disk(t, 2000)
	one := disk(t, 2000)
	all(t, snapshot.Save(one, "p0", of(3)))
	fresh := one.Clone()
	lay(t, fresh, "p0.new", []byte("left by another one"))
	loose := one.Clone()
	all(t, loose.Create("p0.new"), loose.Append("p0.new", []byte("loose")))
	several := fresh.Clone()
	for _, no := range []uint64{0, 5, 9, 0x10, 0x11} {
		lay(t, several, fileOf("p0", no), []byte("some"))
	}
	lay(t, several, "p1.0000000000000001", []byte("else"))
	lay(t, several, "p1.new", []byte("else"))
	same := one.Clone()
	lay(t, same, fileOf("p0", 9), bytesOf(of(8)))
	return map[string]*simfs.FS{"empty": empty, "one": one, "a fresh file": fresh, "a loose one": loose, "several": several, "the same": same}
}

// P12.2: just the calls that change the disk, in their order, each refused in turn, and none refused: with what lies on the disk behind it.
func TestSaveCalls(t *testing.T) {
	changes := map[string]int{"empty": 6, "one": 7, "a fresh file": 8, "a loose one": 8, "several": 10, "the same": 7}
	for what, f := range beginnings(t) {
		for n := 1; n <= 14; n++ {
			g := f.Clone()
			g.Stop(n)
			why := both(t, g, "p0", of(9), what, n)
			if want := map[bool]api.Errno{true: api.OK, false: api.ErrStop}[n > changes[what]]; why != want {
				t.Errorf("%s: Stop(%d): %v", what, n, why)
			}
		}
		all(t, both(t, f, "p0", of(9), what))
		if f.Open() != 0 {
			t.Errorf("%s: %d are open", what, f.Open())
		}
		all(t, both(t, f, "p0", of(9), what, "again"), both(t, f, "p0", of(4), what, "lower"), both(t, f, "p0", of(0x20), what, "greater"))
	}
}

// P12.2: what lies on a disk that stops at each call, told by hand.
func TestSaveRefusedByHand(t *testing.T) {
	b := string(bytesOf(of(9)))
	old := fileOf("p0", 3)
	for n, want := range []map[string]string{
		1: {old: "", "p0.new": "left by another one"}, // Remove
		2: {old: ""},                                  // Create
		3: {old: "", "p0.new": b[:len(b)/2]},          // Append
		4: {old: "", "p0.new": b},                     // Sync
		5: {old: "", "p0.new": b},                     // Rename
		6: {old: "", fileOf("p0", 9): b},              // SyncNames
		7: {old: "", fileOf("p0", 9): b},              // Remove
		8: {fileOf("p0", 9): b},                       // SyncNames
		9: {fileOf("p0", 9): b},
	} {
		if n == 0 {
			continue
		}
		f := beginnings(t)["a fresh file"]
		was, _ := f.Read(old)
		f.Stop(n)
		if why := snapshot.Save(f, "p0", of(9)); (why == api.OK) != (n == 9) || n < 9 && why != api.ErrStop {
			t.Errorf("Stop(%d): %v", n, why)
		}
		if len(f.List()) != len(want) {
			t.Errorf("Stop(%d): %q", n, f.List())
		}
		for name, text := range want {
			if text == "" {
				text = string(was)
			}
			if got, _ := f.Read(name); string(got) != text {
				t.Errorf("Stop(%d): %s is %s", n, name, short(got))
			}
		}
	}
}

// P12.2: a disk without room refuses the Append: the file that was Created is Removed, and all else stays; if that is refused, too, the error is the first one.
func TestSaveWithoutRoom(t *testing.T) {
	size := len(bytesOf(of(9)))
	for _, free := range []int{0, 1, size - 1, size} {
		for stop := range 7 {
			f := disk(t, 1000)
			all(t, snapshot.Save(f, "p0", of(3)))
			lay(t, f, "else", make([]byte, 1000-f.Used()-free))
			f.Stop(stop)
			why := both(t, f, "p0", of(9), free, stop)
			want := api.ErrQuota
			switch {
			case stop == 1 || free == size && stop > 0:
				want = api.ErrStop
			case free == size:
				want = api.OK
			}
			if why != want {
				t.Errorf("%d free, Stop(%d): %v, not %v", free, stop, why, want)
			}
			switch {
			case why == api.OK:
				listed(t, f, "else", fileOf("p0", 9))
			case why == api.ErrQuota && stop == 2: // the second change would have been the Remove
				listed(t, f, "else", fileOf("p0", 3), "p0.new")
			case why == api.ErrQuota:
				listed(t, f, "else", fileOf("p0", 3))
			}
			if why != api.OK && free < size {
				latest(t, f, "p0", 3, free, stop)
			}
		}
	}
}

// P12.2: the room of a fresh file that is there is free, as that is Removed ahead; that of the one with a lower number is not yet.
func TestSaveInTheRoomOfAnother(t *testing.T) {
	size := len(bytesOf(of(9)))
	f := disk(t, size)
	lay(t, f, "p0.new", make([]byte, size))
	all(t, both(t, f, "p0", of(9)))
	latest(t, f, "p0", 9)
	if why := both(t, f, "p0", of(14)); why != api.ErrQuota {
		t.Error(why)
	}
	latest(t, f, "p0", 9)
	listed(t, f, fileOf("p0", 9))
}

// P12.2: a disk with as many files as there can be refuses the Create; with a fresh one among them there is room.
func TestSaveOfTooManyFiles(t *testing.T) {
	f := disk(t, 10000)
	all(t, snapshot.Save(f, "p0", of(3)))
	for i := range api.MaxFiles - 1 {
		lay(t, f, fmt.Sprint("else", i), nil)
	}
	if why := both(t, f, "p0", of(9)); why != api.ErrMany || f.Open() != 0 || len(f.List()) != api.MaxFiles {
		t.Error(why, f.Open())
	}
	latest(t, f, "p0", 3)
	all(t, f.Rename("else0", "p0.new"))
	all(t, both(t, f, "p0", of(9)))
	latest(t, f, "p0", 9)
}

// P12.2: goings of Saves, of whatever numbers, under several names, on disks that stop, are full, and crash: each as it is by hand.
func TestSaveAtRandom(t *testing.T) {
	t.Parallel()
	r := rand.New(rand.NewSource(7))
	came := map[api.Errno]int{}
	for range 300 {
		f := disk(t, 400+r.Intn(3000))
		for range 25 {
			name := []string{"p0", "p1", "p"}[r.Intn(3)]
			switch r.Intn(10) {
			case 0:
				f.Crash([]int{r.Intn(300), r.Intn(10)}[:r.Intn(3)], r.Intn(9))
			case 1:
				f.Create(name + ".new")
				f.Append(name+".new", bytesOf(of(5))[:r.Intn(90)])
			case 2:
				file := fileOf(name, uint64(r.Intn(20)))
				f.Create(file)
				f.Append(file, bytesOf(of(5))[:r.Intn(90)])
			case 3:
				f.Create(fmt.Sprint("else", r.Intn(9)))
			default:
				f.Stop(max(0, r.Intn(30)-15))
				came[both(t, f, name, of(uint64(r.Intn(20))))]++
			}
			f.Stop(0)
		}
	}
	for _, why := range []api.Errno{api.OK, api.ErrStop, api.ErrQuota} {
		if came[why] < 100 {
			t.Errorf("%v came but %d times", why, came[why])
		}
	}
}

// P12.2: what is Saved is the snapshot's bytes, also of the greatest that there can be.
func TestSaveOfTheGreatest(t *testing.T) {
	t.Parallel()
	s := bulky(1 << 23)
	f := disk(t, api.MaxQuota)
	all(t, snapshot.Save(f, "p0", s))
	s.No = 1
	all(t, snapshot.Save(f, "p0", s)) // both have room at once
	if b, _ := f.Read(fileOf("p0", 1)); !bytes.Equal(b, bytesOf(s)) || f.Used() != 1<<23 {
		t.Error(short(b), f.Used())
	}
	if d, is, why := snapshot.Latest(f, "p0"); !is || why != api.OK || !snapshot.Same(d, s) {
		t.Error(is, why)
	}
}
