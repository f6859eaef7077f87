package cmdlog_test

import (
	"slices"
	"testing"
)

// spoil changes all bytes of a list, those of its spare room, too.
func spoil(b []byte) {
	b = b[:cap(b)]
	for i := range b {
		b[i] = '#'
	}
}

// P10.3: bytes that are handed in are neither kept nor changed, nor is their spare room.
func TestBytesHandedIn(t *testing.T) {
	f, l := with(t, 64)
	for i, text := range []string{"abc", thirty, "", "d"} {
		b := slices.Concat([]byte(text), []byte("spare room"))[:len(text)]
		if no, _ := l.Append(b); no != uint64(i)+1 {
			t.Fatal(no)
		}
		if string(b[:cap(b)][:len(text)+10]) != text+"spare room" {
			t.Errorf("%q was changed", text)
		}
		spoil(b)
	}
	is(t, l, 1, 4, 0, []uint64{1, 3}, "abc", thirty, "", "d")
	is(t, opened(t, f, 64), 1, 4, 4, []uint64{1, 3}, "abc", thirty, "", "d")
}

// P10.3: what is told is the asker's alone: whatever becomes of one list, of its spare room, too, no other one and nothing of the log is changed.
func TestBytesTold(t *testing.T) {
	f, l := with(t, 64, "abc", thirty, "", "d", "efg")
	was, on := told(l), stands(f)
	other, _ := l.Read(1, 9)
	for i := range 5 {
		list, _ := l.Read(1, 9)
		files := l.Files()
		spoil(list[i].B)
		for j := range list {
			if j != i && string(list[j].B) != string(other[j].B) {
				t.Errorf("%d is changed with %d", j+1, i+1)
			}
		}
		list = list[:cap(list)]
		clear(list)
		files = files[:cap(files)]
		clear(files)
	}
	if told(l) != was || stands(f) != on {
		t.Error(told(l), stands(f))
	}
	for i, text := range texts(t, l) {
		if string(other[i].B) != text {
			t.Errorf("%d is changed with another answer's", i+1)
		}
	}
}

// Two logs that were opened of two disks that are the same go each their own way.
func TestLogsApart(t *testing.T) {
	f, l := with(t, 64, thirty, "a")
	g := f.Clone()
	m := opened(t, g, 64)
	appended(t, l, "b", 3)
	appended(t, m, "c", 3)
	all(t, m.Drop(1))
	is(t, l, 1, 3, 0, []uint64{1, 2}, thirty, "a", "b")
	is(t, m, 2, 3, 3, []uint64{2}, "a", "c")
}
