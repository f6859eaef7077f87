package cmdlog_test

import (
	"bytes"
	"fmt"
	"math"
	"slices"
	"strings"
	"testing"

	"lockstep/api"
	"lockstep/cmdlog"
	"lockstep/simfs"
)

// P10.1: the arguments that can't be, also several at once: ErrArg ahead of ErrName, and both ahead of ErrLog; nothing is changed.
func TestOpenArguments(t *testing.T) {
	f := disk(t, 1000)
	lay(t, f, nameOf(7), nil, 0)
	was := stands(f)
	for _, x := range []struct {
		f    *simfs.FS
		name string
		size int
		want api.Errno
	}{
		{nil, "log", 64, api.ErrArg},
		{nil, "", 0, api.ErrArg},
		{nil, "LOG", 64, api.ErrArg},
		{f, "log", 63, api.ErrArg},
		{f, "log", 0, api.ErrArg},
		{f, "log", -64, api.ErrArg},
		{f, "log", math.MinInt, api.ErrArg},
		{f, "log", 1<<22 + 1, api.ErrArg},
		{f, "log", math.MaxInt, api.ErrArg},
		{f, "", 63, api.ErrArg},
		{f, "a.b", 1<<22 + 1, api.ErrArg},
		{f, "", 64, api.ErrName},
		{f, strings.Repeat("n", 41), 64, api.ErrName},
		{f, strings.Repeat("n", 4000), 1 << 22, api.ErrName},
		{f, "log", 64, api.ErrLog},
		{f, "log", 1 << 22, api.ErrLog},
	} {
		l, why := cmdlog.Open(x.f, x.name, x.size)
		if l != nil || why != x.want || stands(f) != was {
			t.Errorf("Open(%q, %d): %v %v", x.name, x.size, l, why)
		}
	}
}

// P10.1: which sizes and names can be, byte by byte.
func TestOpenSizesAndNames(t *testing.T) {
	for _, size := range []int{64, 65, 4096, 1<<22 - 1, 1 << 22} {
		is(t, opened(t, disk(t, 100), size), 1, 0, 0, nil)
	}
	for _, name := range []string{"a", "z", "0", "9", "_", "log", "a_0", strings.Repeat("n", 40), strings.Repeat("0", 16)} {
		f := disk(t, 100)
		l, why := cmdlog.Open(f, name, 64)
		if l == nil || why != api.OK {
			t.Fatalf("%q: %v", name, why)
		}
		appended(t, l, "a", 1)
		if want := []string{name + ".0000000000000001"}; !slices.Equal(l.Files(), want) || !slices.Equal(f.List(), want) {
			t.Errorf("%q: %q %q", name, l.Files(), f.List())
		}
	}
	for c := range 256 {
		can := c >= 'a' && c <= 'z' || c >= '0' && c <= '9' || c == '_'
		for _, name := range []string{string([]byte{byte(c)}), "a" + string([]byte{byte(c)}), string([]byte{byte(c)}) + "b"} {
			f := disk(t, 100)
			if l, why := cmdlog.Open(f, name, 64); (l != nil) != can || (why == api.OK) != can || !can && why != api.ErrName {
				t.Errorf("%q: %v", name, why)
			}
		}
	}
	for _, name := range []string{"Log", "LOG", "log.", ".log", "a.b", "a b", "a-b", "é", "log\x00", "log.0000000000000001"} {
		if l, why := cmdlog.Open(disk(t, 100), name, 64); l != nil || why != api.ErrName {
			t.Errorf("%q: %v", name, why)
		}
	}
}

// P10.1: files that are not the log's play no part, and are left alone.
func TestOpenOtherFiles(t *testing.T) {
	others := []string{
		"log", "log.", "logs.0000000000000001", "lo.0000000000000001", "xlog.0000000000000001", "log_.0000000000000001",
		"LOG.0000000000000001", "log0000000000000001", "log_0000000000000001", "log..0000000000000001", "log.0000000000000001.",
		"log.000000000000001", "log.00000000000000001", "log.1", "log.000000000000000000000001",
		"log.000000000000000A", "log.00000000000000fF", "log.000000000000000g", "log.00000000000000-1", "log.+000000000000001", "log.0x00000000000001", "log.0000_00000000001", "log.000000000000001!",
		"log.log.0000000000000001", "0000000000000001", ".0000000000000001",
	}
	f := disk(t, 10000)
	for _, name := range others {
		lay(t, f, name, []byte("other"), 2)
	}
	lay(t, f, nameOf(1), fileOf(1, "a", "b"), 5)
	l := opened(t, f, 64)
	is(t, l, 1, 2, 2, []uint64{1}, "a", "b")
	appended(t, l, thirty, 3)
	appended(t, l, "c", 4)
	all(t, l.Commit(), l.Drop(4))
	is(t, l, 4, 4, 4, []uint64{4}, "c")
	for _, name := range others {
		b, _ := f.Read(name)
		if n, why := f.Fast(name); n != 2 || why != api.OK || string(b) != "other" {
			t.Errorf("%q: %q, %d fast, %v", name, b, n, why)
		}
	}
	if f.Open() != 0 {
		t.Error("names are Synced", f.Open())
	}
}

// P10.1: two logs of one disk know nothing of one another.
func TestOpenTwoLogs(t *testing.T) {
	f := disk(t, 10000)
	a, _ := cmdlog.Open(f, "a", 64)
	ab, _ := cmdlog.Open(f, "ab", 64)
	appended(t, a, thirty, 1)
	appended(t, ab, "x", 1)
	appended(t, a, thirty, 2)
	appended(t, ab, "y", 2)
	all(t, a.Commit(), ab.Commit(), a.Drop(1))
	all(t, f.Append("ab.0000000000000001", []byte("torn")))
	if l, why := cmdlog.Open(f, "a", 64); why != api.OK || l.First() != 2 || l.Last() != 2 {
		t.Error(why)
	}
	if n, _ := f.Size("ab.0000000000000001"); n != 24+13+13+4 {
		t.Error("a file of another log was cut", n)
	}
	if l, why := cmdlog.Open(f, "ab", 64); why != api.OK || !slices.Equal(texts(t, l), []string{"x", "y"}) {
		t.Error(why)
	}
}

// P10.1: the form of a file, by each of its bytes.
func TestOpenForm(t *testing.T) {
	written := "LOCKSTEP" + "\x00\x00\x00\x00\x00\x00\x01\x02"
	written += string(hashed([]byte(written)))
	written += "\x00\x00\x00\x03abc" + string(hashed([]byte("\x00\x00\x00\x00\x00\x00\x01\x02"+"\x00\x00\x00\x03"+"abc")))
	written += "\x00\x00\x00\x00" + string(hashed([]byte("\x00\x00\x00\x00\x00\x00\x01\x03"+"\x00\x00\x00\x00")))
	if written != string(fileOf(0x102, "abc", "")) {
		t.Fatal("the tests' own form")
	}
	f := disk(t, 1000)
	lay(t, f, "log.0000000000000102", []byte(written), -1)
	l := opened(t, f, 100)
	is(t, l, 0x102, 0x103, 0x103, []uint64{0x102}, "abc", "")
	appended(t, l, "\xff", 0x104)
	written += "\x00\x00\x00\x01\xff" + string(hashed([]byte("\x00\x00\x00\x00\x00\x00\x01\x04"+"\x00\x00\x00\x01"+"\xff")))
	if b, _ := f.Read("log.0000000000000102"); string(b) != written {
		t.Errorf("%q, not %q", b, written)
	}
}

// flawed are last files without a whole record.
func flawed(no uint64) map[string][]byte {
	h := headOf(no)
	torn := append(slices.Clone(h), recordOf(no, "a")[:12]...)
	other := slices.Concat(h, recordOf(no+1, "a"))
	wrongHash := slices.Clone(h)
	wrongHash[23] ^= 1
	return map[string][]byte{
		"empty": nil, "a byte": h[:1], "headless": h[:23], "no head": []byte(strings.Repeat("n", 60)),
		"another mark":         append([]byte("lockstep"), h[8:]...),
		"a head's other Hash":  append(wrongHash, recordOf(no, "a")...),
		"another number, less": fileOf(no-1, "a", "b"), "another number, more": fileOf(no+1, "a"),
		"a head alone": h, "torn at the first": torn, "another record": other,
		"of another number, behind its head": slices.Concat(headOf(no+1), recordOf(no, "a")),
		"a record without a head":            recordOf(no, "a"),
	}
}

// P10.1: a last file without a whole record is Removed, if there is a file ahead, or its number is 1; else: ErrLog, and nothing is changed.
func TestOpenLastWithout(t *testing.T) {
	for what, b := range flawed(1) {
		f := disk(t, 1000)
		lay(t, f, nameOf(1), b, len(b)/2)
		l := opened(t, f, 64)
		is(t, l, 1, 0, 0, nil)
		if len(f.List()) != 0 || f.Open() != 0 {
			t.Errorf("%s: %s", what, stands(f))
		}
		appended(t, l, "new", 1)
	}
	for _, no := range []uint64{2, 3, 0x10, 1 << 63, math.MaxUint64} {
		for what, b := range flawed(no) {
			f := disk(t, 1000)
			lay(t, f, nameOf(no), b, len(b)/2)
			was := stands(f)
			if l, why := cmdlog.Open(f, "log", 64); l != nil || why != api.ErrLog || stands(f) != was {
				t.Errorf("%d, %s: %v %s", no, what, why, stands(f))
			}
		}
	}
	for _, first := range []uint64{1, 2, 0x10, 1 << 63, math.MaxUint64 - 2} {
		for what, b := range flawed(first + 2) {
			f := disk(t, 1000)
			lay(t, f, nameOf(first), fileOf(first, "x", "y"), 30)
			lay(t, f, nameOf(first+2), b, len(b)/2)
			l := opened(t, f, 64)
			is(t, l, first, first+1, first+1, []uint64{first}, "x", "y")
			if want := fmt.Sprintf("%s %s 50; open 0 left 40", nameOf(first), short(fileOf(first, "x", "y"))); stands(f) != want {
				t.Errorf("%d, %s: %s", first, what, stands(f))
			}
			appended(t, l, "new", first+2) // the one ahead is the last one now, and has room
			is(t, l, first, first+2, first+1, []uint64{first}, "x", "y", "new")
		}
	}
}

// P10.1: a last file with a whole record is Cut to where it is whole.
func TestOpenTorn(t *testing.T) {
	whole := fileOf(7, "a", "")
	for what, behind := range map[string][]byte{
		"nothing": nil, "a byte": {0}, "a length": {0, 0, 0, 1}, "a piece": recordOf(9, "abc")[:14],
		"a record of the number ahead": recordOf(8, "b"), "of the number behind": recordOf(10, "b"),
		"a length of more than there is": {0, 0, 0, 200, 1, 2, 3, 4, 5, 6, 7, 8, 9, 10, 11, 12}, "the greatest length": {255, 255, 255, 255, 1, 2, 3, 4, 5, 6, 7, 8, 9},
		"of more than an int of 32 bits": {128, 0, 0, 0, 1, 2, 3, 4, 5, 6, 7, 8, 9}, "noughts": make([]byte, 100), "another head": headOf(9),
		"a whole one behind a torn one": slices.Concat(recordOf(9, "b")[:12], recordOf(10, "c")),
		"a record that is too long":     recordOf(9, long+"m"),
	} {
		for _, fast := range []int{0, 30, len(whole), -1} {
			for _, ahead := range []bool{false, true} {
				f := disk(t, api.MaxQuota)
				files, first, said := []uint64{7}, uint64(7), []string{"a", ""}
				if ahead {
					lay(t, f, nameOf(5), fileOf(5, "x", "y"), 0)
					files, first, said = []uint64{5, 7}, 5, []string{"x", "y", "a", ""}
				}
				lay(t, f, nameOf(7), slices.Concat(whole, behind), fast)
				l := opened(t, f, 200)
				is(t, l, first, 8, 8, files, said...)
				b, _ := f.Read(nameOf(7))
				if n, _ := f.Fast(nameOf(7)); !bytes.Equal(b, whole) || n != len(whole) || f.Open() != 0 {
					t.Errorf("%s, %d fast: %s", what, fast, stands(f))
				}
				appended(t, l, "b", 9)
			}
		}
	}
}

// P10.1: what is no log: a file ahead that is headless, torn, without records; gaps and overlaps; the number 0.
func TestOpenNoLog(t *testing.T) {
	ab := fileOf(1, "a", "b")
	for what, files := range map[string]map[uint64][]byte{
		"a file ahead that is empty":       {1: nil, 2: fileOf(2, "b")},
		"an empty one of the same number":  {1: fileOf(1, "a"), 2: nil, 3: fileOf(3, "b")},
		"headless":                         {1: ab[:23], 3: fileOf(3, "c")},
		"with another head":                {1: slices.Concat(headOf(2), ab[24:]), 3: fileOf(3, "c")},
		"torn by a byte":                   {1: ab[:len(ab)-1], 3: fileOf(3, "c")},
		"torn by a byte, as it is whole":   {1: ab[:len(ab)-1], 2: fileOf(2, "c")},
		"with a byte too many":             {1: slices.Concat(ab, []byte{0}), 3: fileOf(3, "c")},
		"with a record too many":           {1: slices.Concat(ab, recordOf(4, "d")), 3: fileOf(3, "c")},
		"with a record that is too long":   {1: slices.Concat(ab, recordOf(3, long+"m")), 4: fileOf(4, "c")},
		"without records":                  {1: headOf(1), 2: fileOf(2, "b")},
		"without records, of one number":   {1: fileOf(1, "a"), 2: headOf(2), 3: fileOf(3, "b")},
		"a gap":                            {1: ab, 4: fileOf(4, "d")},
		"a gap, ahead of an empty one":     {1: ab, 4: nil},
		"a gap, ahead of a head":           {1: ab, 4: headOf(4)},
		"a wide gap":                       {1: ab, 1 << 63: fileOf(1<<63, "d")},
		"a gap further ahead":              {1: ab, 4: fileOf(4, "d"), 5: fileOf(5, "e")},
		"an overlap":                       {1: ab, 2: fileOf(2, "b")},
		"an overlap, ahead of an empty":    {1: ab, 2: nil},
		"the file 0":                       {0: fileOf(0, "a")},
		"the file 0, empty":                {0: nil},
		"the file 0, a head":               {0: headOf(0)},
		"the file 0, ahead":                {0: fileOf(0, "z"), 1: ab},
		"the file 0, empty, ahead":         {0: nil, 1: ab},
		"the record 0":                     {math.MaxUint64: fileOf(math.MaxUint64, "a", "b")},
		"the record 0 among more":          {math.MaxUint64 - 1: fileOf(math.MaxUint64-1, "a", "b", "c", "d")},
		"the record 0, torn behind it":     {math.MaxUint64: slices.Concat(fileOf(math.MaxUint64, "a", "b"), []byte("torn"))},
		"the record 0, behind a file":      {math.MaxUint64 - 1: fileOf(math.MaxUint64-1, "x"), math.MaxUint64: fileOf(math.MaxUint64, "a", "")},
		"a file that ends in the record 0": {1: ab, math.MaxUint64 - 1: fileOf(math.MaxUint64-1, "a", "b", "c")},
	} {
		f := disk(t, api.MaxQuota)
		for no, b := range files {
			lay(t, f, nameOf(no), b, len(b)/2)
		}
		for _, stop := range []int{0, 1} { // a disk that has stopped plays no part, as nothing is changed
			f.Stop(stop)
			was := stands(f)
			if l, why := cmdlog.Open(f, "log", 64); l != nil || why != api.ErrLog || stands(f) != was {
				t.Errorf("%s: %v %s", what, why, stands(f))
			}
		}
	}
}

// P10.1: a file ahead of which any byte is another one is no log's: not one of its records is given up.
func TestOpenBentAhead(t *testing.T) {
	whole := fileOf(1, "a", "bc")
	for i := range whole {
		for _, by := range []byte{1, 2, 0x80, 0xff} {
			b := slices.Clone(whole)
			b[i] ^= by
			f := laid(t, map[uint64][]byte{1: b, 3: fileOf(3, "d")})
			was := stands(f)
			if l, why := cmdlog.Open(f, "log", 64); l != nil || why != api.ErrLog || stands(f) != was {
				t.Errorf("byte %d: %v", i, why)
			}
		}
	}
}

// P10.1: what is one: numbers up to 2^64 - 1, one file and several, rising by their digits.
func TestOpenLogs(t *testing.T) {
	const top = math.MaxUint64
	for _, x := range []struct {
		files       map[uint64][]byte
		first, last uint64
		nos         []uint64
		said        []string
	}{
		{nil, 1, 0, nil, nil},
		{map[uint64][]byte{1: fileOf(1, "")}, 1, 1, []uint64{1}, []string{""}},
		{map[uint64][]byte{1: fileOf(1, long, "", "a")}, 1, 3, []uint64{1}, []string{long, "", "a"}},
		{map[uint64][]byte{9: fileOf(9, "a"), 10: fileOf(10, "b", "c"), 12: fileOf(12, "d")}, 9, 12, []uint64{9, 10, 12}, []string{"a", "b", "c", "d"}},
		{map[uint64][]byte{15: fileOf(15, "a"), 16: fileOf(16, "b")}, 15, 16, []uint64{15, 16}, []string{"a", "b"}},
		{map[uint64][]byte{1<<63 - 1: fileOf(1<<63-1, "a"), 1 << 63: fileOf(1<<63, "b")}, 1<<63 - 1, 1 << 63, []uint64{1<<63 - 1, 1 << 63}, []string{"a", "b"}},
		{map[uint64][]byte{top: fileOf(top, "a")}, top, top, []uint64{top}, []string{"a"}},
		{map[uint64][]byte{top - 1: fileOf(top-1, "a", "b")}, top - 1, top, []uint64{top - 1}, []string{"a", "b"}},
		{map[uint64][]byte{top - 1: fileOf(top-1, "a"), top: fileOf(top, "b")}, top - 1, top, []uint64{top - 1, top}, []string{"a", "b"}},
		{map[uint64][]byte{top: slices.Concat(fileOf(top, "a"), recordOf(0, "b")[:12])}, top, top, []uint64{top}, []string{"a"}},
		{map[uint64][]byte{top - 1: fileOf(top-1, "a"), top: headOf(top)}, top - 1, top - 1, []uint64{top - 1}, []string{"a"}},
	} {
		f := laid(t, x.files)
		is(t, opened(t, f, 64), x.first, x.last, x.last, x.nos, x.said...)
		names := []string{}
		for _, no := range x.nos {
			names = append(names, nameOf(no))
		}
		if !slices.Equal(f.List(), names) {
			t.Errorf("%q, not %q", f.List(), names)
		}
	}
}

// P10.1: what Open does, one behind the other, each of which is refused in turn: what was done stays; opened behind that all the same, the log is what it would have been.
func TestOpenRefused(t *testing.T) {
	one, two, three := fileOf(1, "a"), fileOf(2, "b"), fileOf(3, "c")
	torn := slices.Concat(three, []byte("torn"))
	sync := func(names ...uint64) []func(*simfs.FS) api.Errno {
		var list []func(*simfs.FS) api.Errno
		for _, no := range names {
			list = append(list, func(f *simfs.FS) api.Errno { return f.Sync(nameOf(no)) })
		}
		return append(list, (*simfs.FS).SyncNames)
	}
	for what, x := range map[string]struct {
		files map[uint64][]byte
		does  []func(*simfs.FS) api.Errno
		last  uint64
	}{
		"no files":  {nil, sync(), 0},
		"whole":     {map[uint64][]byte{1: one, 2: two, 3: three}, sync(1, 2, 3), 3},
		"torn":      {map[uint64][]byte{1: one, 2: two, 3: torn}, append([]func(*simfs.FS) api.Errno{func(f *simfs.FS) api.Errno { return f.Cut(nameOf(3), len(three)) }}, sync(1, 2, 3)...), 3},
		"headless":  {map[uint64][]byte{1: one, 2: two, 3: torn[:20]}, append([]func(*simfs.FS) api.Errno{func(f *simfs.FS) api.Errno { return f.Remove(nameOf(3)) }}, sync(1, 2)...), 2},
		"one empty": {map[uint64][]byte{1: nil}, append([]func(*simfs.FS) api.Errno{func(f *simfs.FS) api.Errno { return f.Remove(nameOf(1)) }}, sync()...), 0},
	} {
		for n := 1; n <= len(x.does)+1; n++ {
			f := disk(t, 1000)
			for no, b := range x.files {
				lay(t, f, nameOf(no), b, 0)
			}
			f.Stop(n)
			g := f.Clone()
			want := api.OK
			for _, do := range x.does {
				if want = do(g); want != api.OK {
					break
				}
			}
			l, why := cmdlog.Open(f, "log", 64)
			if why != want || (l != nil) != (n > len(x.does)) || stands(f) != stands(g) {
				t.Errorf("%s, refused at %d: %v %s\nnot\n%v %s", what, n, why, stands(f), want, stands(g))
			}
			f.Stop(0)
			if l := opened(t, f, 64); l.Last() != x.last || l.Fast() != x.last {
				t.Errorf("%s, refused at %d: %s", what, n, told(l))
			}
		}
	}
}
