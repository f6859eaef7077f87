package cmdlog_test

import (
	"encoding/binary"
	"fmt"
	"hash/fnv"
	"math"
	"strconv"
	"strings"
	"testing"

	"lockstep/api"
	"lockstep/cmdlog"
	"lockstep/simfs"
)

func disk(t *testing.T, quota int) *simfs.FS {
	t.Helper()
	f, why := simfs.New(quota)
	if why != api.OK {
		t.Fatal(why)
	}
	return f
}

// all: none of these was refused.
func all(t *testing.T, whys ...api.Errno) {
	t.Helper()
	for i, why := range whys {
		if why != api.OK {
			t.Fatalf("call %d: %v", i, why)
		}
	}
}

func hashed(b []byte) []byte {
	h := fnv.New64a()
	h.Write(b)
	return binary.BigEndian.AppendUint64(nil, h.Sum64())
}

func headOf(no uint64) []byte {
	b := binary.BigEndian.AppendUint64([]byte("LOCKSTEP"), no)
	return append(b, hashed(b)...)
}

func recordOf(no uint64, text string) []byte {
	b := binary.BigEndian.AppendUint32(binary.BigEndian.AppendUint64(nil, no), uint32(len(text)))
	b = append(b, text...)
	return append(b[8:], hashed(b)...)
}

// fileOf is a whole file of the document's form.
func fileOf(no uint64, texts ...string) []byte {
	b := headOf(no)
	for i, text := range texts {
		b = append(b, recordOf(no+uint64(i), text)...)
	}
	return b
}

func nameOf(no uint64) string { return fmt.Sprintf("log.%016x", no) }

// lay puts a file on the disk, of which the first bytes stand fast, as many as said (below 0: all); its name does not.
func lay(t *testing.T, f *simfs.FS, name string, b []byte, fast int) {
	t.Helper()
	if fast < 0 {
		fast = len(b)
	}
	all(t, f.Create(name), f.Append(name, b[:fast]), f.Sync(name), f.Append(name, b[fast:]))
}

// laid is a disk with files of the log named log, by their numbers: whole, and fast.
func laid(t *testing.T, files map[uint64][]byte) *simfs.FS {
	t.Helper()
	f := disk(t, api.MaxQuota)
	for no, b := range files {
		lay(t, f, nameOf(no), b, -1)
	}
	all(t, f.SyncNames())
	return f
}

func opened(t *testing.T, f *simfs.FS, size int) *cmdlog.Log {
	t.Helper()
	l, why := cmdlog.Open(f, "log", size)
	if why != api.OK || l == nil {
		t.Fatalf("Open: %v", why)
	}
	return l
}

// with is a log on a disk of its own to which texts were Appended.
func with(t *testing.T, size int, texts ...string) (*simfs.FS, *cmdlog.Log) {
	t.Helper()
	f := disk(t, api.MaxQuota)
	l := opened(t, f, size)
	for i, text := range texts {
		appended(t, l, text, uint64(i)+1)
	}
	return f, l
}

func appended(t *testing.T, l *cmdlog.Log, text string, want uint64) {
	t.Helper()
	if no, why := l.Append([]byte(text)); no != want || why != api.OK {
		t.Fatalf("Append: %d %v, not %d", no, why, want)
	}
}

func refused(t *testing.T, l *cmdlog.Log, text string, want api.Errno) {
	t.Helper()
	if no, why := l.Append([]byte(text)); no != 0 || why != want {
		t.Fatalf("Append: %d %v, not %v", no, why, want)
	}
}

// numbers is those of a log's files.
func numbers(l *cmdlog.Log) []uint64 {
	var list []uint64
	for _, name := range l.Files() {
		no, _ := strconv.ParseUint(name[len("log."):], 16, 64)
		list = append(list, no)
	}
	return list
}

// short writes a long text by its length and its ends.
func short(b []byte) string {
	if len(b) > 200 {
		return fmt.Sprintf("%d bytes %q .. %q %x", len(b), b[:9], b[len(b)-9:], hashed(b))
	}
	return fmt.Sprintf("%q", b)
}

// texts is what a log's records say, from First on.
func texts(t *testing.T, l *cmdlog.Log) []string {
	t.Helper()
	got, why := l.Read(l.First(), math.MaxInt)
	if why != api.OK {
		t.Fatal(why)
	}
	var list []string
	for i, r := range got {
		if r.No != l.First()+uint64(i) {
			t.Fatalf("%d at %d behind %d", r.No, i, l.First())
		}
		list = append(list, string(r.B))
	}
	if l.First()+uint64(len(list))-1 != l.Last() {
		t.Fatalf("%d records from %d to %d", len(list), l.First(), l.Last())
	}
	return list
}

// told is all that a log tells: First, Last, Fast, the numbers of its files, its records.
func told(l *cmdlog.Log) string {
	var s strings.Builder
	fmt.Fprintf(&s, "%d to %d, %d fast, %q:", l.First(), l.Last(), l.Fast(), l.Files())
	list, why := l.Read(l.First(), math.MaxInt)
	for _, r := range list {
		fmt.Fprintf(&s, " %d %s", r.No, short(r.B))
	}
	fmt.Fprintf(&s, " %d", why)
	return s.String()
}

// is holds what a log tells against its numbers, its files' numbers and its texts.
func is(t *testing.T, l *cmdlog.Log, first, last, fast uint64, files []uint64, said ...string) {
	t.Helper()
	names := []string{}
	for _, no := range files {
		names = append(names, nameOf(no))
	}
	want := fmt.Sprintf("%d to %d, %d fast, %q:", first, last, fast, names)
	for i, text := range said {
		want += fmt.Sprintf(" %d %s", first+uint64(i), short([]byte(text)))
	}
	if got := told(l); got != want+" 0" {
		t.Errorf("%s\nnot\n%s 0", got, want)
	}
}

// stands is all that a disk tells, and how many changes are left till it stops.
func stands(f *simfs.FS) string {
	var s strings.Builder
	for _, e := range f.Image() {
		fmt.Fprintf(&s, "%s %s %d; ", e.Name, short(e.B), e.Fast)
	}
	left := 0
	for c := f.Clone(); left < 40 && c.SyncNames() == api.OK; left++ {
	}
	fmt.Fprintf(&s, "open %d left %d", f.Open(), left)
	return s.String()
}

var (
	thirty = strings.Repeat("x", 30)
	long   = strings.Repeat("m", api.MaxMessage)
)
