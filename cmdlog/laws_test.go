package cmdlog_test

import (
	"math"
	"slices"
	"strings"
	"testing"

	"lockstep/api"
	"lockstep/cmdlog"
)

// P10.6: on a disk that is full Append is refused, whatever is missing, into a file with room and into a new one; all else stays as it is, and there is room again by a byte.
func TestFull(t *testing.T) {
	for _, x := range []struct {
		first string
		needs int
	}{{"a", 12 + 30}, {thirty, 24 + 12 + 30}} {
		for free := range x.needs {
			f := disk(t, 1000)
			l := opened(t, f, 64)
			appended(t, l, x.first, 1)
			all(t, l.Commit())
			full(t, f, 1000, free)
			all(t, f.SyncNames())
			image, was := f.Image(), told(l)
			for range 2 {
				refused(t, l, thirty, api.ErrQuota)
				if told(l) != was || !slices.EqualFunc(f.Image(), image, sameEntry) {
					t.Fatalf("%d free: %s", free, stands(f))
				}
			}
			crashed := f.Clone()
			crashed.Crash([]int{9}, 1)
			is(t, opened(t, crashed, 64), 1, 1, 1, []uint64{1}, x.first)
			all(t, l.Commit(), l.Drop(1))
			if told(l) != was {
				t.Error(told(l))
			}
			full(t, f, 1000, x.needs)
			appended(t, l, thirty, 2)
			if f.Used() != 1000 {
				t.Error(f.Used())
			}
			refused(t, l, "", api.ErrQuota)
			all(t, l.Commit())
			if l := opened(t, f, 64); !slices.Equal(texts(t, l), []string{x.first, thirty}) {
				t.Error(told(l))
			}
		}
	}
}

func sameEntry(a, b api.Entry) bool {
	return a.Name == b.Name && string(a.B) == string(b.B) && a.Fast == b.Fast
}

// P10.6: a log that has filled its disk makes room by a Drop; a shorter record may have room where a longer one has none.
func TestFullByItself(t *testing.T) {
	f := disk(t, 500)
	l := opened(t, f, 64)
	no := uint64(0)
	for {
		n, why := l.Append([]byte(thirty))
		if why == api.ErrQuota {
			break
		}
		if no++; n != no || why != api.OK {
			t.Fatal(n, why)
		}
	}
	if no != 7 || f.Used() != 7*66 {
		t.Fatal(no, f.Used())
	}
	refused(t, l, "abc", api.ErrQuota)
	appended(t, l, "ab", 8) // 24 + 12 + 2 of 38
	refused(t, l, "", api.ErrQuota)
	all(t, l.Drop(1))
	appended(t, l, "", 9)
	appended(t, l, thirty, 10)
	refused(t, l, thirty, api.ErrQuota)
	all(t, l.Commit())
	is(t, opened(t, f, 64), 2, 10, 10, []uint64{2, 3, 4, 5, 6, 7, 8}, thirty, thirty, thirty, thirty, thirty, thirty, "ab", "", thirty)
}

// lengths are the places in a file of such records at which it says how many bytes one has.
func lengths(texts []string) map[int]int {
	at := map[int]int{}
	place := 24
	for _, text := range texts {
		for i := range 4 {
			at[place+i] = 1
		}
		place += 12 + len(text)
	}
	return at
}

// left is how many of such records are whole within so many bytes of a file.
func left(texts []string, bytes int) int {
	place := 24
	for i, text := range texts {
		place += 12 + len(text)
		if place > bytes {
			return i
		}
	}
	return len(texts)
}

// torn opens a log whose last file is bytes of which so many records are to be there, with a file ahead or not.
func torn(t *testing.T, ahead bool, no uint64, b []byte, want int, what ...any) {
	t.Helper()
	f := disk(t, api.MaxQuota)
	first, said := no, []string{}
	if ahead {
		first, said = no-2, []string{"x", thirty}
		lay(t, f, nameOf(first), fileOf(first, said...), -1)
	}
	lay(t, f, nameOf(no), b, -1)
	all(t, f.SyncNames())
	was := stands(f)
	l, why := cmdlog.Open(f, "log", 64)
	if want == 0 && !ahead && no != 1 { // P10.1: there is no telling what there was ahead
		if l != nil || why != api.ErrLog || stands(f) != was {
			t.Fatalf("%v: %v", what, why)
		}
		return
	}
	if why != api.OK {
		t.Fatalf("%v: %v", what, why)
	}
	said = append(said, tornTexts[:want]...)
	if got := texts(t, l); !slices.Equal(got, said) || l.First() != first && len(said) > 0 {
		t.Fatalf("%v: %s, not %q", what, told(l), said)
	}
	appended(t, l, "new", first+uint64(len(said)))
	if l := opened(t, f, 64); !slices.Equal(texts(t, l), append(said, "new")) {
		t.Fatalf("%v: %s", what, told(l))
	}
}

var tornTexts = []string{"a", "", "bcd", strings.Repeat("\x00", 20), "e"}

// P10.7: the last file cut off at each length: the records from there on are gone alone.
func TestTornCut(t *testing.T) {
	for _, no := range []uint64{1, 3, 0x1ff, math.MaxUint64 - 6} {
		b := fileOf(no, tornTexts...)
		for n := range len(b) + 1 {
			for _, ahead := range []bool{false, true} {
				if no > 1 || !ahead {
					torn(t, ahead, no, b[:n], left(tornTexts, n), "file", no, "ahead", ahead, "cut to", n)
				}
			}
		}
	}
}

// P10.7: any byte of the last file another one, but for those of a length: the records from there on are gone alone. (Of those of a length: what the model reads.)
func TestTornByte(t *testing.T) {
	t.Parallel()
	for _, no := range []uint64{1, 3, 0x1ff} {
		b := fileOf(no, tornTexts...)
		says := lengths(tornTexts)
		for i := range b {
			for by := 1; by < 256; by++ {
				changed := slices.Clone(b)
				changed[i] ^= byte(by)
				want := left(tornTexts, i)
				if says[i] == 1 {
					want = len(see(no, changed).texts)
				}
				for _, ahead := range []bool{false, true} {
					if no > 1 || !ahead {
						torn(t, ahead, no, changed, want, "file", no, "ahead", ahead, "byte", i, "by", by)
					}
				}
			}
		}
	}
}

// P10.7: the same of a long record, at some of its bytes.
func TestTornLong(t *testing.T) {
	b := fileOf(1, "a", long)
	for i := 37; i < len(b); i += 1 + (i-36)*(len(b)-i)/40000 {
		changed := slices.Clone(b)
		changed[i] ^= 4
		for what, x := range map[string][]byte{"cut": b[:i], "changed": changed} {
			f := laid(t, map[uint64][]byte{1: x})
			if l := opened(t, f, 64); !slices.Equal(texts(t, l), []string{"a"}) {
				t.Errorf("%s at %d: %s", what, i, told(l))
			}
		}
	}
}
