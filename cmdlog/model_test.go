package cmdlog_test

import (
	"bytes"
	"encoding/binary"
	"fmt"
	"math"
	"math/rand"
	"regexp"
	"slices"
	"strconv"
	"strings"
	"testing"

	"lockstep/api"
	"lockstep/cmdlog"
	"lockstep/simfs"
)

// The model tells the promises in another way than the log does: it keeps all records itself, and tells of each call what is to be done on the disk, one behind the other, and what each of these comes to; they are played up to the first that is refused.
type model struct {
	disk   *simfs.FS
	size   int
	starts []uint64
	first  uint64
	texts  []string
	fast   uint64
}

type step struct {
	do   func() api.Errno
	then func()
}

func play(steps []step) api.Errno {
	for _, s := range steps {
		if why := s.do(); why != api.OK {
			return why
		}
		if s.then != nil {
			s.then()
		}
	}
	return api.OK
}

// seen is a file of the log as the document reads it.
type seen struct {
	no     uint64
	b      []byte
	headed bool
	texts  []string
	end    int
}

func see(no uint64, b []byte) seen {
	x := seen{no: no, b: b}
	if len(b) < 24 || string(b[:8]) != "LOCKSTEP" || binary.BigEndian.Uint64(b[8:]) != no || !bytes.Equal(b[16:24], hashed(b[:16])) {
		return x
	}
	x.headed, x.end = true, 24
	for {
		rest := b[x.end:]
		if len(rest) < 4 || binary.BigEndian.Uint32(rest) > 65536 {
			return x
		}
		n := 4 + int(binary.BigEndian.Uint32(rest))
		if len(rest) < n+8 {
			return x
		}
		known := append(binary.BigEndian.AppendUint64(nil, no+uint64(len(x.texts))), rest[:n]...)
		if !bytes.Equal(rest[n:n+8], hashed(known)) {
			return x
		}
		x.texts = append(x.texts, string(rest[4:n]))
		x.end += n + 8
	}
}

// areALog is the document's list, one behind the other.
func areALog(files []seen) bool {
	ok := true
	for i, x := range files {
		if i < len(files)-1 {
			ok = ok && x.headed && x.end == len(x.b) && len(x.texts) >= 1
			ok = ok && files[i+1].no == x.no+uint64(len(x.texts))
		} else {
			ok = ok && (len(x.texts) >= 1 || i > 0 || x.no == 1)
		}
		ok = ok && x.no != 0
		for k := range x.texts {
			ok = ok && x.no+uint64(k) != 0
		}
	}
	return ok
}

// logFile is the form of the names of the log's files (the model's logs are all named log).
var logFile = regexp.MustCompile(`^log\.([0-9a-f]{16})$`)

func openModel(f *simfs.FS, size int) (*model, api.Errno) {
	var files []seen
	for _, e := range f.Image() {
		if m := logFile.FindStringSubmatch(e.Name); m != nil {
			no, _ := strconv.ParseUint(m[1], 16, 64)
			files = append(files, see(no, e.B))
		}
	}
	if !areALog(files) {
		return nil, api.ErrLog
	}
	m := &model{disk: f, size: size, first: 1}
	var steps []step
	for i, x := range files {
		if len(x.texts) == 0 {
			steps = append(steps, step{do: func() api.Errno { return f.Remove(nameOf(x.no)) }})
			continue
		}
		if x.end < len(x.b) {
			steps = append(steps, step{do: func() api.Errno { return f.Cut(nameOf(x.no), x.end) }})
		}
		if i == 0 {
			m.first = x.no
		}
		m.starts = append(m.starts, x.no)
		m.texts = append(m.texts, x.texts...)
	}
	for _, no := range m.starts {
		steps = append(steps, step{do: func() api.Errno { return f.Sync(nameOf(no)) }})
	}
	steps = append(steps, step{do: f.SyncNames})
	if why := play(steps); why != api.OK {
		return nil, why
	}
	m.fast = m.last()
	return m, api.OK
}

func (m *model) last() uint64 { return m.first + uint64(len(m.texts)) - 1 }

func (m *model) lastName() string { return nameOf(m.starts[len(m.starts)-1]) }

func (m *model) append(b string) (uint64, api.Errno) {
	if len(b) > 65536 || m.last() == math.MaxUint64 {
		return 0, api.ErrLong
	}
	no := m.last() + 1
	var steps []step
	room := false
	if len(m.starts) > 0 {
		n, _ := m.disk.Size(m.lastName())
		room = n < m.size
	}
	created := false
	if room {
		steps = []step{{do: func() api.Errno { return m.disk.Append(m.lastName(), recordOf(no, b)) }}}
	} else {
		if len(m.starts) > 0 {
			steps = append(steps, step{do: func() api.Errno { return m.disk.Sync(m.lastName()) }})
		}
		steps = append(steps,
			step{func() api.Errno { return m.disk.Create(nameOf(no)) }, func() { created = true }},
			step{func() api.Errno { return m.disk.Append(nameOf(no), fileOf(no, b)) }, func() { m.starts = append(m.starts, no) }})
	}
	if why := play(steps); why != api.OK {
		if created {
			m.disk.Remove(nameOf(no))
		}
		return 0, why
	}
	m.texts = append(m.texts, b)
	return no, api.OK
}

func (m *model) commitSteps() []step {
	var steps []step
	if len(m.starts) > 0 {
		steps = append(steps, step{do: func() api.Errno { return m.disk.Sync(m.lastName()) }})
	}
	return append(steps, step{m.disk.SyncNames, func() { m.fast = m.last() }})
}

func (m *model) dropSteps(upto uint64) []step {
	steps := m.commitSteps()
	for i := range m.starts {
		if i == len(m.starts)-1 || m.starts[i+1]-1 > upto {
			break
		}
		no, next := m.starts[i], m.starts[i+1]
		steps = append(steps, step{func() api.Errno { return m.disk.Remove(nameOf(no)) }, func() {
			m.starts, m.texts, m.first = m.starts[1:], m.texts[next-no:], next
		}})
	}
	return append(steps, step{do: m.disk.SyncNames})
}

func (m *model) read(from uint64, most int) string {
	if from < m.first || from > m.last() && from != m.last()+1 || most < 0 {
		return " 1"
	}
	s := ""
	for i, text := range m.texts {
		if no := m.first + uint64(i); no >= from && most > 0 {
			s += fmt.Sprintf(" %d %s", no, short([]byte(text)))
			most--
		}
	}
	return s + " 0"
}

func (m *model) told() string {
	names := []string{}
	for _, no := range m.starts {
		names = append(names, nameOf(no))
	}
	return fmt.Sprintf("%d to %d, %d fast, %q:", m.first, m.last(), m.fast, names) + m.read(m.first, math.MaxInt)
}

// act is a call of a log, or something that is done with its disk.
type act struct {
	what  string
	text  string
	n     int
	upto  uint64
	keeps []int
}

// pair is a log and a model, on a disk each.
type pair struct {
	f, g *simfs.FS
	l    *cmdlog.Log
	m    *model
}

func (p *pair) open(size int) string {
	var why, want api.Errno
	p.l, why = cmdlog.Open(p.f, "log", size)
	p.m, want = openModel(p.g, size)
	if why != want || (p.l == nil) != (why != api.OK) {
		return fmt.Sprintf("Open: %v, not %v", why, want)
	}
	return ""
}

// do does an act on both, and says what is not the same of what they answer.
func (p *pair) do(a act) string {
	switch a.what {
	case "stop":
		p.f.Stop(a.n)
		p.g.Stop(a.n)
		return ""
	case "crash":
		p.f.Crash(a.keeps, a.n)
		p.g.Crash(a.keeps, a.n)
		return p.open(64)
	case "open":
		return p.open(a.n)
	case "else":
		p.f.Append("else", []byte(a.text))
		p.g.Append("else", []byte(a.text))
		return ""
	case "less":
		p.f.Cut("else", 0)
		p.g.Cut("else", 0)
		return ""
	}
	if p.l == nil { // until it is opened again
		return ""
	}
	var no, wantNo uint64
	var why, want api.Errno
	switch a.what {
	case "append":
		no, why = p.l.Append([]byte(a.text))
		wantNo, want = p.m.append(a.text)
	case "commit":
		why, want = p.l.Commit(), play(p.m.commitSteps())
	case "drop":
		why, want = p.l.Drop(a.upto), play(p.m.dropSteps(a.upto))
	}
	if no != wantNo || why != want {
		return fmt.Sprintf("%d %v, not %d %v", no, why, wantNo, want)
	}
	return ""
}

// differ says what is not the same of what both are.
func (p *pair) differ() string {
	if got, want := stands(p.f), stands(p.g); got != want {
		return got + "\nnot\n" + want
	}
	if p.l == nil {
		return ""
	}
	if got, want := told(p.l), p.m.told(); got != want {
		return got + "\nnot\n" + want
	}
	return ""
}

func newPair(t *testing.T, quota int, path ...act) *pair {
	t.Helper()
	p := &pair{f: disk(t, quota), g: disk(t, quota)}
	all(t, p.f.Create("else"), p.g.Create("else"), p.f.SyncNames(), p.g.SyncNames())
	if bad := p.open(64); bad != "" {
		t.Fatal(bad)
	}
	for i, a := range path {
		if bad := p.do(a); bad != "" {
			t.Fatalf("%v: %s", path[:i+1], bad)
		}
	}
	return p
}

func few() []act {
	return []act{
		{what: "append"}, {what: "append", text: "a"}, {what: "append", text: thirty}, {what: "append", text: strings.Repeat("y", 41)},
		{what: "commit"},
		{what: "drop"}, {what: "drop", upto: 1}, {what: "drop", upto: 2}, {what: "drop", upto: math.MaxUint64},
		{what: "stop", n: 0}, {what: "stop", n: 1}, {what: "stop", n: 2}, {what: "stop", n: 3}, {what: "stop", n: 4},
		{what: "crash"}, {what: "crash", n: 1, keeps: []int{math.MaxInt - 1}}, {what: "crash", n: 2, keeps: []int{30}}, {what: "crash", n: 3, keeps: []int{60, 5}},
		{what: "open", n: 64}, {what: "open", n: 200},
	}
}

// every goes through all acts of a depth behind a path; each path is gone anew, as a log can't be doubled.
func every(t *testing.T, quota, depth int, path []act) {
	if depth == 0 {
		return
	}
	for _, a := range few() {
		next := append(path[:len(path):len(path)], a)
		if bad := newPair(t, quota, next...).differ(); bad != "" {
			t.Fatalf("%v: %s", next, bad)
		}
		every(t, quota, depth-1, next)
	}
}

// P10.1, P10.2, P10.3: all that four calls can come to, on an empty disk.
func TestEveryFew(t *testing.T) {
	t.Parallel()
	every(t, 300, 4, nil)
}

// P10.1, P10.2, P10.3: all that three calls can come to, on logs that are under way: with several files, with records that do not stand fast, on a disk that is about to stop or has stopped, that is full.
func TestEveryFewBehind(t *testing.T) {
	t.Parallel()
	a, x := act{what: "append", text: "a"}, act{what: "append", text: thirty}
	commit := act{what: "commit"}
	for _, begin := range [][]act{
		{x, x, commit, x, a},
		{a, x, x, a},
		{x, x, x, commit, x, {what: "stop", n: 3}},
		{x, x, {what: "stop", n: 3}, x},
		{x, a, {what: "stop", n: 1}, x, {what: "stop"}},
		{x, a, x, {what: "stop", n: 1}, commit},
		{x, x, x, commit, {what: "else", text: strings.Repeat("e", 150)}},
		{x, x, x, commit, {what: "else", text: strings.Repeat("e", 200)}, {what: "stop", n: 3}},
	} {
		every(t, 400, 3, begin)
	}
}

func randomAct(r *rand.Rand) act {
	keeps := make([]int, r.Intn(4))
	for i := range keeps {
		keeps[i] = r.Intn(200) - 5
	}
	switch k := r.Intn(60); {
	case k < 30:
		return act{what: "append", text: strings.Repeat(string(rune('a'+r.Intn(26))), r.Intn(1+r.Intn(80)))}
	case k < 38:
		return act{what: "commit"}
	case k < 44:
		return act{what: "drop", upto: uint64(r.Intn(30))}
	case k < 47:
		return act{what: "stop", n: r.Intn(12) - 1}
	case k < 50:
		return act{what: "stop"}
	case k < 54:
		return act{what: "crash", keeps: keeps, n: r.Intn(9) - 1}
	case k < 56:
		return act{what: "open", n: 64 + r.Intn(100)}
	case k < 58:
		return act{what: "else", text: strings.Repeat("e", r.Intn(400))}
	}
	return act{what: "less"}
}

// P10.1, P10.2, P10.3: long goings on, at random.
func TestRandomGoings(t *testing.T) {
	t.Parallel()
	r := rand.New(rand.NewSource(10))
	for range 1500 {
		p := newPair(t, 200+r.Intn(1500))
		var path []act
		for range 80 {
			a := randomAct(r)
			path = append(path, a)
			bad := p.do(a)
			if bad == "" {
				bad = p.differ()
			}
			if bad != "" {
				t.Fatalf("%v: %s", path, bad)
			}
			if p.l != nil {
				from, most := uint64(r.Intn(40)), r.Intn(8)-1
				if got, want := readTold(p.l, from, most), p.m.read(from, most); got != want {
					t.Fatalf("%v Read(%d, %d): %s, not %s", path, from, most, got, want)
				}
			}
		}
	}
}

func readTold(l *cmdlog.Log, from uint64, most int) string {
	list, why := l.Read(from, most)
	s := ""
	for _, x := range list {
		s += fmt.Sprintf(" %d %s", x.No, short(x.B))
	}
	return s + fmt.Sprintf(" %d", why)
}

// bent is bytes with something done to them.
func bent(r *rand.Rand, b []byte) []byte {
	b = bytes.Clone(b)
	switch r.Intn(4) {
	case 0:
		return b[:r.Intn(len(b)+1)]
	case 1:
		b[r.Intn(len(b))] ^= byte(1 + r.Intn(255))
		return b
	case 2:
		return append(b, recordOf(uint64(r.Intn(6)), "z")...)
	}
	return append(b, []byte{0, 0, 0, 1, 0, 0}[:r.Intn(7)]...)
}

// layAny lays files as they come, most of them right, and of numbers most of which fit.
func layAny(t *testing.T, r *rand.Rand, f *simfs.FS) {
	no := []uint64{1, 1, 1, 2, 7, 0, math.MaxUint64, math.MaxUint64 - 1, math.MaxUint64 - 3}[r.Intn(9)]
	for range r.Intn(4) {
		said := slices.Repeat([]string{strings.Repeat("t", r.Intn(3))}, r.Intn(4))
		b := fileOf(no, said...)
		if r.Intn(4) == 0 {
			b = bent(r, b)
		}
		if _, why := f.Size(nameOf(no)); why == api.ErrNone {
			lay(t, f, nameOf(no), b, r.Intn(len(b)+1))
		}
		no += uint64(len(said))
		if r.Intn(12) == 0 {
			no += uint64(r.Intn(3)) - 1
		}
	}
}

// P10.1: files right and bent, with numbers that fit and that do not: what Open answers, and what the disk is then, also if it stops meanwhile.
func TestOpenWhatThereIs(t *testing.T) {
	t.Parallel()
	r := rand.New(rand.NewSource(11))
	answers := map[api.Errno]int{}
	for range 40000 {
		f := disk(t, 5000)
		layAny(t, r, f)
		if r.Intn(3) == 0 {
			f.Stop(1 + r.Intn(6))
		}
		was := stands(f)
		p := &pair{f: f, g: f.Clone()}
		_, why := openModel(f.Clone(), 64)
		answers[why]++
		bad := p.open(64)
		if bad == "" {
			bad = p.differ()
		}
		if bad != "" {
			t.Fatalf("%s: %s", was, bad)
		}
		if why == api.ErrLog && stands(f) != was {
			t.Fatalf("%s, behind an ErrLog: %s", was, stands(f))
		}
	}
	for _, why := range []api.Errno{api.OK, api.ErrLog, api.ErrStop} {
		if answers[why] < 2000 {
			t.Errorf("%v but %d times", why, answers[why])
		}
	}
}
