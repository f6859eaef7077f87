package simfs_test

import (
	"fmt"
	"maps"
	"math/rand"
	"slices"
	"strings"
	"testing"

	"lockstep/api"
	"lockstep/simfs"
)

// The model tells the promises in another way than the disk does: it keeps every file by a number, for ever, and the names as they stood fast and as they stood behind each open change; a crash takes one of these.
type model struct {
	quota   int
	files   []kept
	names   []map[string]int
	stopAt  int // below 1: none
	changes int // since the last Stop
}

type kept struct {
	b    string
	fast int
}

// act is a call that may change a disk.
type act struct {
	what, name, to string
	b              string
	n              int
	keeps          []int
}

func newModel(quota int) *model { return &model{quota: quota, names: []map[string]int{{}}} }

func (m *model) clone() *model {
	c := *m
	c.files = slices.Clone(m.files)
	c.names = slices.Clone(m.names) // the maps themselves are never changed
	return &c
}

func (m *model) now() map[string]int { return m.names[len(m.names)-1] }

func (m *model) used() int {
	n := 0
	for _, k := range m.now() {
		n += len(m.files[k].b)
	}
	return n
}

func (m *model) renamed(change func(map[string]int)) {
	next := maps.Clone(m.now())
	change(next)
	m.names = append(m.names, next)
}

func nameCanBe(s string) bool {
	ok := len(s) >= 1 && len(s) <= 64
	for _, c := range []byte(s) {
		ok = ok && c >= 33 && c <= 126
	}
	return ok
}

// refusal is what a call answers, Stop aside.
func (m *model) refusal(a act) api.Errno {
	if a.what == "syncnames" {
		return api.OK
	}
	if !nameCanBe(a.name) || a.what == "rename" && !nameCanBe(a.to) {
		return api.ErrName
	}
	k, there := m.now()[a.name]
	if a.what == "create" {
		switch {
		case there:
			return api.ErrThere
		case len(m.now()) == 64:
			return api.ErrMany
		}
		return api.OK
	}
	switch {
	case !there:
		return api.ErrNone
	case a.what == "append" && m.used()+len(a.b) > m.quota:
		return api.ErrQuota
	case a.what == "cut" && (a.n < 0 || a.n > len(m.files[k].b)):
		return api.ErrArg
	}
	return api.OK
}

func (m *model) do(a act) api.Errno {
	switch a.what {
	case "stop":
		m.stopAt, m.changes = a.n, 0
		return api.OK
	case "crash":
		m.crash(a.keeps, a.n)
		return api.OK
	}
	if why := m.refusal(a); why != api.OK {
		return why
	}
	m.changes++
	if m.stopAt >= 1 && m.changes >= m.stopAt {
		if m.changes == m.stopAt && a.what == "append" {
			m.files[m.now()[a.name]].b += a.b[:len(a.b)/2]
		}
		return api.ErrStop
	}
	m.change(a)
	return api.OK
}

func (m *model) change(a act) {
	k := m.now()[a.name]
	switch a.what {
	case "create":
		m.files = append(m.files, kept{})
		m.renamed(func(n map[string]int) { n[a.name] = len(m.files) - 1 })
	case "append":
		m.files[k].b += a.b
	case "cut":
		m.files[k] = kept{m.files[k].b[:a.n], min(a.n, m.files[k].fast)}
	case "rename":
		if a.name != a.to {
			m.renamed(func(n map[string]int) { delete(n, a.name); n[a.to] = k })
		}
	case "remove":
		m.renamed(func(n map[string]int) { delete(n, a.name) })
	case "sync":
		m.files[k].fast = len(m.files[k].b)
	case "syncnames":
		m.names = m.names[len(m.names)-1:]
	}
}

func (m *model) crash(keeps []int, names int) {
	stay := 0
	if names > 0 {
		stay = names % len(m.names) // one more than there are open
	}
	m.names = []map[string]int{m.names[stay]}
	endless := slices.Repeat(keeps, 65)
	for _, name := range slices.Sorted(maps.Keys(m.now())) {
		k := m.now()[name]
		x := m.files[k]
		rest := x.b[x.fast:]
		if rest == "" {
			continue
		}
		if len(endless) > 0 {
			rest, endless = rest[:max(0, endless[0])%(len(rest)+1)], endless[1:]
		} else {
			rest = ""
		}
		b := x.b[:x.fast] + rest
		m.files[k] = kept{b, len(b)}
	}
	m.stopAt = 0
}

func do(f *simfs.FS, a act) api.Errno {
	switch a.what {
	case "create":
		return f.Create(a.name)
	case "append":
		return f.Append(a.name, []byte(a.b))
	case "cut":
		return f.Cut(a.name, a.n)
	case "rename":
		return f.Rename(a.name, a.to)
	case "remove":
		return f.Remove(a.name)
	case "sync":
		return f.Sync(a.name)
	case "syncnames":
		return f.SyncNames()
	case "stop":
		f.Stop(a.n)
	case "crash":
		f.Crash(a.keeps, a.n)
	}
	return api.OK
}

// told is all that a disk tells.
func told(f *simfs.FS, names []string) string {
	var s strings.Builder
	fmt.Fprintf(&s, "%q used %d open %d", f.List(), f.Used(), f.Open())
	for _, e := range f.Image() {
		fmt.Fprintf(&s, " %q %q %d", e.Name, e.B, e.Fast)
	}
	for _, name := range names {
		b, e1 := f.Read(name)
		n, e2 := f.Size(name)
		fast, e3 := f.Fast(name)
		fmt.Fprintf(&s, "; %q %q %d %d %d %d %d", name, b, e1, n, e2, fast, e3)
	}
	return s.String()
}

func (m *model) told(names []string) string {
	var s strings.Builder
	list := slices.Sorted(maps.Keys(m.now()))
	fmt.Fprintf(&s, "%q used %d open %d", list, m.used(), len(m.names)-1)
	for _, name := range list {
		x := m.files[m.now()[name]]
		fmt.Fprintf(&s, " %q %q %d", name, x.b, x.fast)
	}
	for _, name := range names {
		k, there := m.now()[name]
		x, why := kept{}, api.OK
		switch {
		case !nameCanBe(name):
			why = api.ErrName
		case !there:
			why = api.ErrNone
		default:
			x = m.files[k]
		}
		fmt.Fprintf(&s, "; %q %q %d %d %d %d %d", name, x.b, why, len(x.b), why, x.fast, why)
	}
	return s.String()
}

// same does a on both, and holds them against each other.
func same(t *testing.T, f *simfs.FS, m *model, a act, names []string, path []act) {
	t.Helper()
	if got, want := do(f, a), m.do(a); got != want {
		t.Fatalf("%v %v: %v, not %v", path, a, got, want)
	}
	if got, want := told(f, names), m.told(names); got != want {
		t.Fatalf("%v %v:\n%s\nnot\n%s", path, a, got, want)
	}
}

func made(t *testing.T, quota int, acts ...act) (*simfs.FS, *model) {
	t.Helper()
	f, why := simfs.New(quota)
	if f == nil || why != api.OK {
		t.Fatal(why)
	}
	m := newModel(quota)
	for i, a := range acts {
		same(t, f, m, a, nil, acts[:i])
	}
	return f, m
}

func few() []act {
	return []act{
		{what: "create", name: "a"}, {what: "create", name: "b"},
		{what: "append", name: "a", b: "xyz"}, {what: "append", name: "a", b: "u"}, {what: "append", name: "b", b: "vw"}, {what: "append", name: "b"},
		{what: "cut", name: "a", n: 0}, {what: "cut", name: "a", n: 2}, {what: "cut", name: "b", n: 1},
		{what: "rename", name: "a", to: "b"}, {what: "rename", name: "b", to: "a"}, {what: "rename", name: "a", to: "a"},
		{what: "remove", name: "a"}, {what: "remove", name: "b"},
		{what: "sync", name: "a"}, {what: "sync", name: "b"}, {what: "syncnames"},
		{what: "stop", n: 0}, {what: "stop", n: 1}, {what: "stop", n: 2},
		{what: "crash"}, {what: "crash", n: 1, keeps: []int{1}}, {what: "crash", n: 2, keeps: []int{2, 0, 5}}, {what: "crash", n: -3, keeps: []int{-1, 1}},
	}
}

// every goes through all acts of a depth, each on a Clone of its own, and at the end holds the disk itself against what it was ahead of that.
func every(t *testing.T, f *simfs.FS, m *model, depth int, path []act) {
	if depth == 0 {
		return
	}
	names := []string{"a", "b", "c"}
	for _, a := range few() {
		g, n := f.Clone(), m.clone()
		same(t, g, n, a, names, path)
		every(t, g, n, depth-1, append(path, a))
	}
	if got, want := told(f, names), m.told(names); got != want {
		t.Fatalf("%v, behind its Clones:\n%s\nnot\n%s", path, got, want)
	}
}

// P4.1, P4.2, P4.3, P4.8: all that four calls can come to, on an empty disk.
func TestEveryFew(t *testing.T) {
	f, m := made(t, 5)
	every(t, f, m, 4, nil)
}

// P4.1, P4.2, P4.3, P4.8: all that three calls can come to, on disks with files, with open changes, with bytes that do not stand fast, above their quota.
func TestEveryFewBehind(t *testing.T) {
	a := act{what: "create", name: "a"}
	b := act{what: "create", name: "b"}
	ax := act{what: "append", name: "a", b: "xyz"}
	bv := act{what: "append", name: "b", b: "vw"}
	sa := act{what: "sync", name: "a"}
	names := act{what: "syncnames"}
	for _, begin := range [][]act{
		{a, b, ax, sa, bv, names},
		{a, b, ax, bv, names, {what: "rename", name: "b", to: "a"}, b},
		{a, ax, sa, names, {what: "remove", name: "a"}, a, {what: "append", name: "a", b: "12345"}, sa, {what: "rename", name: "a", to: "b"}},
		{a, ax, names, {what: "remove", name: "a"}, b, {what: "append", name: "b", b: "12345"}, {what: "sync", name: "b"}, names, b, {what: "stop", n: 2}},
		{b, bv, names, {what: "rename", name: "b", to: "a"}, {what: "rename", name: "a", to: "b"}, {what: "cut", name: "b", n: 1}, {what: "remove", name: "b"}, a, ax},
		{a, names, a, {what: "rename", name: "a", to: "b"}, a, {what: "append", name: "b", b: "1234"}, {what: "rename", name: "b", to: "a"}, {what: "append", name: "a", b: "5"}},
	} {
		f, m := made(t, 5, begin...)
		every(t, f, m, 3, begin)
	}
}

// randomAct is any call, on few names, and now and then with wrong inputs.
func randomAct(r *rand.Rand, names []string) act {
	name := func() string { return names[r.Intn(len(names))] }
	keeps := func() []int {
		l := make([]int, r.Intn(5))
		for i := range l {
			l[i] = r.Intn(12) - 2
		}
		return l
	}
	switch r.Intn(20) {
	case 0, 1, 2, 3:
		return act{what: "create", name: name()}
	case 4, 5, 6, 7, 8:
		return act{what: "append", name: name(), b: "0123456789abcdefghij"[r.Intn(10):][:r.Intn(11)]}
	case 9, 10:
		return act{what: "cut", name: name(), n: r.Intn(12) - 1}
	case 11, 12, 13:
		return act{what: "rename", name: name(), to: name()}
	case 14:
		return act{what: "remove", name: name()}
	case 15, 16:
		return act{what: "sync", name: name()}
	case 17:
		return act{what: "syncnames"}
	case 18:
		return act{what: "stop", n: r.Intn(10) - 4}
	}
	return act{what: "crash", keeps: keeps(), n: r.Intn(30) - 3}
}

// P4.1, P4.2, P4.3, P4.8: long goings on, on disks and on Clones of them that go on beside them.
func TestRandomGoings(t *testing.T) {
	r := rand.New(rand.NewSource(4))
	names := []string{"a", "b", "B", "c", "~!", "log.1", strings.Repeat("n", 64), strings.Repeat("n", 65), "", "a b"}
	for range 600 {
		f, m := made(t, r.Intn(60))
		type pair struct {
			f *simfs.FS
			m *model
		}
		all := []pair{{f, m}}
		for range 120 {
			if r.Intn(15) == 0 && len(all) < 4 {
				p := all[r.Intn(len(all))]
				all = append(all, pair{p.f.Clone(), p.m.clone()})
			}
			p := all[r.Intn(len(all))]
			same(t, p.f, p.m, randomAct(r, names), names, nil)
		}
		for _, p := range all {
			if got, want := told(p.f, names), p.m.told(names); got != want {
				t.Fatalf("%s\nnot\n%s", got, want)
			}
		}
	}
}
