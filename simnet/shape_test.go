package simnet

import (
	"strings"
	"testing"

	"lockstep/api"
)

// 6.2: what tells of more than were sent tells nothing. (No script brings such a packet about: no more come than were sent, and an elder epoch's do nothing. So it is laid on the way by hand.)
func TestTellsOfMore(t *testing.T) {
	n, _ := New(2)
	for _, b := range []string{"a", "b", "c"} {
		n.Send(0, 1, []byte(b))
	}
	for _, x := range []struct {
		seq    uint64
		unsure int
	}{{4, 3}, {1<<64 - 1, 3}, {1 << 63, 3}, {0, 3}, {2, 1}, {4, 1}, {1, 1}, {3, 0}, {4, 0}} {
		n.flights = append(n.flights, packet{way: ends{0, 1}, ack: true, seq: x.seq, epoch: 1})
		if l := n.Flights(); !l[3].Ack || l[3].From != 1 || l[3].To != 0 || n.Deliver(3) != api.OK {
			t.Fatal(l)
		}
		if u, _ := n.Unsure(0, 1); u != x.unsure {
			t.Errorf("told of %d: %d unsure, not %d", x.seq, u, x.unsure)
		}
	}
}

// 6.2: a packet of an epoch that has not begun does as little as one of an elder one. (It is laid on the way by hand, too.)
func TestLaterEpoch(t *testing.T) {
	n, _ := New(2)
	n.Send(0, 1, []byte("a"))
	n.flights = append(n.flights, packet{way: ends{0, 1}, seq: 1, epoch: 2, text: "b"}, packet{way: ends{0, 1}, ack: true, seq: 1, epoch: 2})
	if n.Deliver(1) != api.OK || n.Deliver(1) != api.OK || len(n.flights) != 1 {
		t.Fatal(n.flights)
	}
	w, _ := n.Waits(1)
	if u, _ := n.Unsure(0, 1); w != 0 || u != 1 {
		t.Error(w, u)
	}
}

// What is kept is no more than is needed: neither messages that are told to have come, nor such as were received, nor such as a Down or an Up has made be gone.
func TestNothingKept(t *testing.T) {
	n, _ := New(2)
	for range 100 {
		n.Send(0, 1, []byte("message"))
		n.Send(1, 0, []byte("message"))
	}
	for n.Deliver(0) == api.OK {
	}
	for range 100 {
		n.Recv(1)
	}
	for e, w := range n.ways {
		if len(w.unsure) > 0 {
			t.Errorf("%v: %d are kept", e, len(w.unsure))
		}
	}
	if len(n.nodes[1].waits) > 0 || len(n.nodes[0].waits) != 100 {
		t.Errorf("%d and %d wait", len(n.nodes[0].waits), len(n.nodes[1].waits))
	}
	for _, p := range n.flights[:cap(n.flights)] {
		if p != (packet{}) {
			t.Fatalf("%v is kept", p)
		}
	}
	n.Send(0, 1, []byte("message"))
	n.Down(0)
	n.Up(0)
	if w := n.ways[ends{0, 1}]; n.nodes[0].waits != nil || w.unsure != nil || w.sent() != 0 || w.came != 0 || w.epoch() != 2 {
		t.Errorf("%v %v", n.nodes[0], w)
	}
}

// What stands ahead in a list that is cut is emptied, so that nothing holds on to it.
func TestBehind(t *testing.T) {
	l := []string{"a", "b", "c", "d"}
	for _, x := range []struct {
		first      int
		was, stays string
	}{{0, "a|b|c|d", "a|b|c|d"}, {1, "|b|c|d", "b|c|d"}, {2, "||c|d", "c|d"}, {4, "|||", ""}} {
		if stays := behind(l, x.first); strings.Join(l, "|") != x.was || strings.Join(stays, "|") != x.stays {
			t.Errorf("%d: %q, %q", x.first, l, stays)
		}
	}
}
