package simnet_test

import (
	"fmt"
	"math/rand"
	"slices"
	"strings"
	"testing"

	"lockstep/api"
	"lockstep/simnet"
)

// watch is what a client of the network knows of each way, by from, to and epoch: what it sent, and what was received. (Each message has its way and its epoch in it, so that it is known when it is received.)
type watch struct {
	n     *simnet.Net
	nodes int
	epoch map[[2]int]int
	sent  map[[3]int][]string
	got   map[[3]int][]string
}

func watched(t *testing.T, nodes int) *watch {
	return &watch{network(t, nodes), nodes, map[[2]int]int{}, map[[3]int][]string{}, map[[3]int][]string{}}
}

func (w *watch) way(from, to int) [3]int { return [3]int{from, to, w.epoch[[2]int{from, to}]} }

func (w *watch) send(from, to int, tail string) {
	way := w.way(from, to)
	text := fmt.Sprintf("%d %d %d %d %s", way[0], way[1], way[2], len(w.sent[way]), tail)
	if w.n.Send(from, to, []byte(text)) == api.OK {
		w.sent[way] = append(w.sent[way], text)
	}
}

// recv takes a message, and fails the test if it is none that was sent to that node, or is not the one whose turn it is in its epoch.
func (w *watch) recv(t *testing.T, node int) bool {
	t.Helper()
	m, is, _ := w.n.Recv(node)
	if !is {
		return false
	}
	var way [3]int
	if _, err := fmt.Sscan(string(m.B), &way[0], &way[1], &way[2]); err != nil || way[0] != m.From || way[1] != node {
		t.Fatalf("%q from %d at %d", m.B, m.From, node)
	}
	w.got[way] = append(w.got[way], string(m.B))
	if k := len(w.got[way]); k > len(w.sent[way]) || w.sent[way][k-1] != string(m.B) {
		t.Fatalf("received %q, sent %q", w.got[way], w.sent[way])
	}
	return true
}

func (w *watch) up(node int) {
	if w.n.Up(node) != api.OK {
		return
	}
	for k := range w.nodes {
		w.epoch[[2]int{node, k}]++
		if k != node {
			w.epoch[[2]int{k, node}]++
		}
	}
}

// step is anything that a script may do.
func (w *watch) step(t *testing.T, r *rand.Rand) {
	node, place := r.Intn(w.nodes), 0
	if l := len(w.n.Flights()); l > 0 {
		place = r.Intn(l)
	}
	switch k := r.Intn(100); {
	case k < 25:
		w.send(node, r.Intn(w.nodes), strings.Repeat("x", r.Intn(3)))
	case k < 40:
		w.recv(t, node)
	case k < 62:
		w.n.Deliver(place)
	case k < 74:
		w.n.Deliver(0)
	case k < 82:
		w.n.Lose(place)
	case k < 90:
		w.n.Twice(place)
	case k < 96:
		w.n.Tick(node)
	case k < 97:
		w.n.Down(node)
	default:
		w.up(node)
	}
}

// P6.5, P6.7: whatever the script: of each way and epoch, what was received is a beginning of what was sent, as it was, and nothing else is told of.
func TestOnceAndInOrder(t *testing.T) {
	r := rand.New(rand.NewSource(65))
	received := 0
	for range 200 {
		w := watched(t, 1+r.Intn(4))
		for range 300 {
			w.step(t, r)
		}
		for node := range w.nodes {
			for w.recv(t, node) {
			}
		}
		for way, l := range w.got {
			received += len(l)
			if !slices.Equal(l, w.sent[way][:len(l)]) {
				t.Fatalf("%v: %q, sent %q", way, l, w.sent[way])
			}
		}
	}
	if received < 3000 {
		t.Errorf("only %d messages were received: the test tells little", received)
	}
}

// P6.5: what came before an epoch began is not told of in it, but for what waited elsewhere; that stands ahead of all that is sent in it.
func TestEpochsInOrder(t *testing.T) {
	r := rand.New(rand.NewSource(66))
	for range 300 {
		w := watched(t, 1+r.Intn(3))
		last := map[[2]int]int{}
		for range 300 {
			w.step(t, r)
			node := r.Intn(w.nodes)
			if m, is, _ := w.n.Recv(node); is {
				var from, to, epoch int
				fmt.Sscan(string(m.B), &from, &to, &epoch)
				if epoch < last[[2]int{from, to}] {
					t.Fatalf("%q behind one of the epoch %d", m.B, last[[2]int{from, to}])
				}
				last[[2]int{from, to}] = epoch
				w.got[[3]int{from, to, epoch}] = append(w.got[[3]int{from, to, epoch}], string(m.B))
			}
		}
	}
}

// P6.6: behind any script, if two nodes are there: a Tick of the sender, and all that is on the way comes, in its order, and what that sends: then all that was sent from one to the other has come, and is told to have.
func TestInTheEnd(t *testing.T) {
	r := rand.New(rand.NewSource(67))
	ends := 0
	for range 400 {
		w := watched(t, 1+r.Intn(4))
		for range r.Intn(200) {
			w.step(t, r)
		}
		from, to := r.Intn(w.nodes), r.Intn(w.nodes)
		if !w.n.Is(from) || !w.n.Is(to) {
			continue
		}
		ends++
		all(t, w.n.Tick(from))
		drain(t, w.n)
		unsure(t, w.n, from, to, 0)
		for w.recv(t, to) {
		}
		if way := w.way(from, to); !slices.Equal(w.got[way], w.sent[way]) {
			t.Fatalf("%v: %q, sent %q", way, w.got[way], w.sent[way])
		}
	}
	if ends < 200 {
		t.Errorf("only %d times: the test tells little", ends)
	}
}

// P6.6: also of MaxFlights messages that were all lost: there is just room for them.
func TestInTheEndFull(t *testing.T) {
	w := watched(t, 2)
	for range api.MaxFlights {
		w.send(0, 1, "")
	}
	for w.n.Lose(0) == api.OK {
	}
	all(t, w.n.Tick(0))
	drain(t, w.n)
	unsure(t, w.n, 0, 1, 0)
	for w.recv(t, 1) {
	}
	if way := w.way(0, 1); len(w.got[way]) != api.MaxFlights || !slices.Equal(w.got[way], w.sent[way]) {
		t.Errorf("%d came", len(w.got[way]))
	}
}

// P6.6: where there was no room, further Ticks bring it all: what is lost at once is not lost for good.
func TestInTheEndWithoutRoom(t *testing.T) {
	w := watched(t, 3)
	for i := range 3 * 3000 {
		w.send(i%3, (i+1)%3, "")
	}
	if l := len(w.n.Flights()); l != api.MaxFlights {
		t.Fatalf("%d on the way", l)
	}
	for range 3 {
		for node := range 3 {
			all(t, w.n.Tick(node))
			drain(t, w.n)
		}
	}
	for node := range 3 {
		unsure(t, w.n, node, (node+1)%3, 0)
		for w.recv(t, node) {
		}
	}
	for node := range 3 {
		if way := w.way(node, (node+1)%3); len(w.got[way]) != 3000 {
			t.Errorf("%v: %d came", way, len(w.got[way]))
		}
	}
}

// P6.7: Lose and Twice change nothing but what is on the way; what is late, lost or doubled changes when messages come, not which.
func TestNothingElse(t *testing.T) {
	r := rand.New(rand.NewSource(68))
	for range 100 {
		nodes := 2 + r.Intn(3)
		calm, wild := watched(t, nodes), watched(t, nodes)
		for range 60 {
			from, to := r.Intn(nodes), r.Intn(nodes)
			calm.send(from, to, "m")
			wild.send(from, to, "m")
			for range r.Intn(4) {
				disturb(t, wild, r)
			}
		}
		for _, w := range []*watch{calm, wild} {
			for node := range nodes {
				all(t, w.n.Tick(node))
			}
			drain(t, w.n)
			for node := range nodes {
				for w.recv(t, node) {
				}
			}
		}
		for way, l := range calm.sent {
			if !slices.Equal(calm.got[way], l) || !slices.Equal(wild.got[way], l) {
				t.Fatalf("%v: %q and %q, sent %q", way, calm.got[way], wild.got[way], l)
			}
		}
		if len(wild.got) != len(calm.got) {
			t.Fatal("something else was told of")
		}
	}
}

// disturb loses, doubles or brings a packet, and fails the test if one that did not come changed more than what is on the way.
func disturb(t *testing.T, w *watch, r *rand.Rand) {
	t.Helper()
	l := w.n.Flights()
	if len(l) == 0 {
		return
	}
	place := r.Intn(len(l))
	was := told(w.n, w.nodes)[len(packets(l)):]
	switch r.Intn(3) {
	case 0:
		all(t, w.n.Lose(place))
		l = slices.Delete(l, place, place+1)
	case 1:
		all(t, w.n.Twice(place))
		l = append(l, l[place])
	default:
		all(t, w.n.Deliver(place))
		return
	}
	if got := told(w.n, w.nodes); got != packets(l)+was {
		t.Fatalf("%s\nnot\n%s%s", got, packets(l), was)
	}
}
