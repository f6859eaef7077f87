package simnet_test

import (
	"testing"

	"lockstep/api"
)

// smear writes over bytes, their spare room too.
func smear(b []byte) {
	b = b[:cap(b)]
	for i := range b {
		b[i] = '#'
	}
}

// Memory: bytes that are handed in are not changed, nor is their spare room, and not kept: whoever changes them afterwards changes no message.
func TestBytesIn(t *testing.T) {
	n := network(t, 2)
	room := []byte("abcdef")
	for _, cut := range []int{3, 0} {
		all(t, n.Send(0, 1, room[:cut]))
		if string(room) != "abcdef" {
			t.Fatalf("%q", room)
		}
	}
	smear(room)
	flies(t, n, `0>1#1@1"abc" 0>1#2@1""`)
	all(t, n.Lose(0), n.Lose(0), n.Tick(0))
	flies(t, n, `0>1#1@1"abc" 0>1#2@1""`)
	drain(t, n)
	gets(t, n, 1, "0abc 0")
}

// Memory: packets that are told are nobody else's: whoever changes them changes neither what is on the way, nor what is sent again, nor another answer.
func TestPacketsOut(t *testing.T) {
	n := network(t, 2)
	sends(t, n, 0, 1, "abc", "def")
	all(t, n.Twice(0))
	c := n.Clone()
	one, other := n.Flights(), n.Flights()
	for i, p := range one {
		smear(p.B)
		one[i] = api.Packet{From: 7}
	}
	_ = append(one, api.Packet{From: 8})
	want := `0>1#1@1"abc" 0>1#2@1"def" 0>1#1@1"abc"`
	flies(t, n, want)
	flies(t, c, want)
	if got := packets(other); got != want+" " {
		t.Errorf("another answer: %s", got)
	}
	other = n.Flights() // no two lists of one answer share any
	smear(other[0].B)
	if string(other[1].B) != "def" || string(other[2].B) != "abc" {
		t.Errorf("%q %q", other[1].B, other[2].B)
	}
	all(t, n.Lose(0), n.Lose(0), n.Lose(0), n.Tick(0))
	flies(t, n, `0>1#1@1"abc" 0>1#2@1"def"`)
	drain(t, n)
	gets(t, n, 1, "0abc 0def")
}

// Memory: bytes that are received are nobody else's.
func TestMessagesOut(t *testing.T) {
	n := network(t, 2)
	sends(t, n, 0, 1, "abc", "def")
	all(t, n.Twice(0))
	all(t, n.Deliver(0), n.Deliver(0))
	c := n.Clone()
	m, _, _ := n.Recv(1)
	smear(m.B)
	flies(t, n, `0>1#1@1"abc" 1>0!#1@1"" 1>0!#2@1""`)
	gets(t, n, 1, "0def")
	gets(t, c, 1, "0abc 0def")
	for n.Lose(0) == api.OK {
	}
	all(t, n.Tick(0))
	flies(t, n, `0>1#1@1"abc" 0>1#2@1"def"`)
}
