package simnet_test

import (
	"fmt"
	"math"
	"strings"
	"testing"

	"lockstep/api"
	"lockstep/simnet"
)

// network is a new one.
func network(t *testing.T, nodes int) *simnet.Net {
	t.Helper()
	n, why := simnet.New(nodes)
	if n == nil || why != api.OK {
		t.Fatalf("New(%d): %v", nodes, why)
	}
	return n
}

// all fails the test if one of what calls answered is not OK.
func all(t *testing.T, answers ...api.Errno) {
	t.Helper()
	for i, why := range answers {
		if why != api.OK {
			t.Fatalf("answer %d: %v", i, why)
		}
	}
}

// sends sends texts from a node to another one.
func sends(t *testing.T, n *simnet.Net, from, to int, texts ...string) {
	t.Helper()
	for _, x := range texts {
		all(t, n.Send(from, to, []byte(x)))
	}
}

// flies fails the test if what is on the way is not this: from>to, ! if it tells, #number, @epoch, "bytes".
func flies(t *testing.T, n *simnet.Net, want string) {
	t.Helper()
	if got := strings.TrimSpace(packets(n.Flights())); got != want {
		t.Errorf("on the way: %s, not %s", got, want)
	}
}

// got takes all that waits at a node: each as from whom, and its bytes.
func got(t *testing.T, n *simnet.Net, node int) string {
	t.Helper()
	var l []string
	waits, why := n.Waits(node)
	if why != api.OK {
		t.Fatalf("Waits(%d): %v", node, why)
	}
	for {
		m, is, why := n.Recv(node)
		if why != api.OK {
			t.Fatalf("Recv(%d): %v", node, why)
		}
		if !is {
			break
		}
		l = append(l, fmt.Sprint(m.From)+string(m.B))
	}
	if len(l) != waits {
		t.Errorf("Waits(%d): %d, but %q", node, waits, l)
	}
	return strings.Join(l, " ")
}

func gets(t *testing.T, n *simnet.Net, node int, want string) {
	t.Helper()
	if got := got(t, n, node); got != want {
		t.Errorf("at %d: %q, not %q", node, got, want)
	}
}

func unsure(t *testing.T, n *simnet.Net, from, to, want int) {
	t.Helper()
	if got, why := n.Unsure(from, to); got != want || why != api.OK {
		t.Errorf("Unsure(%d, %d): %d %v, not %d", from, to, got, why, want)
	}
}

// drain delivers the first packet until nothing is on the way.
func drain(t *testing.T, n *simnet.Net) {
	t.Helper()
	for n.Deliver(0) == api.OK {
	}
	if l := n.Flights(); len(l) > 0 {
		t.Fatalf("on the way: %v", l)
	}
}

// P6.1: from 1 to MaxNodes nodes, all there, nothing on the way; and no other number.
func TestNew(t *testing.T) {
	for _, nodes := range []int{1, 2, 3, api.MaxNodes - 1, api.MaxNodes} {
		n := network(t, nodes)
		if got, want := told(n, nodes), newModel(nodes).told(); got != want {
			t.Errorf("New(%d): %s, not %s", nodes, got, want)
		}
		for i := range nodes {
			gets(t, n, i, "")
		}
	}
	for _, nodes := range []int{0, -1, -2, math.MinInt, api.MaxNodes + 1, 1000, math.MaxInt} {
		if n, why := simnet.New(nodes); n != nil || why != api.ErrArg {
			t.Errorf("New(%d): %v %v", nodes, n, why)
		}
	}
}

// P6.1: each message has the next number of its way, each way its own numbers; a way goes from each node to each one, itself too.
func TestSend(t *testing.T) {
	n := network(t, 2)
	sends(t, n, 0, 1, "a", "b")
	sends(t, n, 1, 0, "c")
	sends(t, n, 0, 0, "d")
	sends(t, n, 0, 1, "")
	sends(t, n, 1, 1, "e")
	flies(t, n, `0>1#1@1"a" 0>1#2@1"b" 1>0#1@1"c" 0>0#1@1"d" 0>1#3@1"" 1>1#1@1"e"`)
	unsure(t, n, 0, 1, 3)
	unsure(t, n, 1, 0, 1)
	unsure(t, n, 0, 0, 1)
	unsure(t, n, 1, 1, 1)
	n = network(t, api.MaxNodes)
	for from := range api.MaxNodes {
		for to := range api.MaxNodes {
			sends(t, n, from, to, fmt.Sprint(from, to))
		}
	}
	drain(t, n)
	for to := range api.MaxNodes {
		var want []string
		for from := range api.MaxNodes {
			want = append(want, fmt.Sprint(from)+fmt.Sprint(from, to))
		}
		gets(t, n, to, strings.Join(want, " "))
	}
}

// P6.1: messages of no bytes, of MaxMessage bytes and not of one more; they come as they were.
func TestSendLong(t *testing.T) {
	n := network(t, 2)
	long := strings.Repeat("0123456789abcdef", api.MaxMessage/16)
	sends(t, n, 0, 1, "", long)
	was := told(n, 2)
	for _, b := range [][]byte{[]byte(long + "x"), make([]byte, 2*api.MaxMessage)} {
		for to := range 2 {
			if why := n.Send(0, to, b); why != api.ErrLong {
				t.Errorf("%d bytes: %v", len(b), why)
			}
		}
	}
	if told(n, 2) != was {
		t.Error("a Send that was refused changed the network")
	}
	all(t, n.Send(0, 1, nil), n.Send(0, 1, []byte{0, 255, 128}))
	drain(t, n)
	gets(t, n, 1, "0 0"+long+" 0 0\x00\xff\x80")
}

// P6.1, P6.2, P6.3, P6.4: of a node that is none each call says ErrNode, and changes nothing; so does a Send that ErrLong would fit too.
func TestNoNode(t *testing.T) {
	for _, nodes := range []int{1, 3, api.MaxNodes} {
		n := network(t, nodes)
		sends(t, n, 0, nodes-1, "x", "y")
		all(t, n.Deliver(0))
		was := told(n, nodes)
		for _, no := range []int{-1, -2, math.MinInt, nodes, nodes + 1, math.MaxInt} {
			_, is, e1 := n.Recv(no)
			waits, e2 := n.Waits(no)
			u1, e3 := n.Unsure(no, 0)
			u2, e4 := n.Unsure(0, no)
			u3, e5 := n.Unsure(no, no)
			long := make([]byte, api.MaxMessage+1)
			for i, why := range []api.Errno{e1, e2, e3, e4, e5, n.Send(no, 0, nil), n.Send(0, no, nil), n.Send(no, no, nil), n.Send(no, 0, long), n.Send(0, no, long), n.Tick(no), n.Down(no), n.Up(no)} {
				if why != api.ErrNode {
					t.Errorf("node %d of %d, answer %d: %v", no, nodes, i, why)
				}
			}
			if is || waits+u1+u2+u3 != 0 || n.Is(no) || told(n, nodes) != was {
				t.Errorf("node %d of %d: %v %d %d %d %d %s", no, nodes, is, waits, u1, u2, u3, told(n, nodes))
			}
		}
	}
}

// P6.1, P6.2, P6.3: a node that is down sends nothing, itself to itself neither, takes nothing and ticks not; others may send to it, and ask how many of its messages are unsure.
func TestDownNode(t *testing.T) {
	n := network(t, 3)
	sends(t, n, 1, 0, "a", "b")
	sends(t, n, 1, 1, "c")
	sends(t, n, 0, 1, "d")
	all(t, n.Deliver(2), n.Down(1))
	was := told(n, 3)
	m, is, e1 := n.Recv(1)
	waits, e2 := n.Waits(1)
	long := make([]byte, api.MaxMessage+1)
	for i, why := range []api.Errno{e1, e2, n.Send(1, 0, nil), n.Send(1, 1, nil), n.Send(1, 3, nil), n.Send(1, 0, long), n.Send(1, 1, long), n.Tick(1), n.Down(1)} {
		if why != api.ErrNode {
			t.Errorf("answer %d: %v", i, why)
		}
	}
	if is || m.From != 0 || m.B != nil || waits != 0 || n.Is(1) || told(n, 3) != was {
		t.Errorf("%v %v %d %s", m, is, waits, told(n, 3))
	}
	unsure(t, n, 1, 0, 2)
	unsure(t, n, 1, 1, 1)
	unsure(t, n, 0, 1, 1)
	sends(t, n, 0, 1, "e")
	if why := n.Send(0, 1, long); why != api.ErrLong {
		t.Error(why)
	}
	unsure(t, n, 0, 1, 2)
	flies(t, n, `1>0#1@1"a" 1>0#2@1"b" 0>1#1@1"d" 1>1!#1@1"" 0>1#2@1"e"`)
	all(t, n.Down(0))
	unsure(t, n, 1, 0, 2)
	unsure(t, n, 0, 1, 2)
	unsure(t, n, 2, 1, 0)
}

// P6.1: MaxFlights messages of a way that are not told to have come, whether they came, are on the way or are lost, and not one more, until one is told; other ways have room of their own.
func TestSendMany(t *testing.T) {
	n := network(t, 2)
	for i := range api.MaxFlights {
		sends(t, n, 0, 1, fmt.Sprint(i))
		if i%2 == 0 {
			all(t, n.Lose(len(n.Flights())-1))
		}
	}
	refused := func(long int) {
		t.Helper()
		was := packets(n.Flights())
		if why := n.Send(0, 1, make([]byte, long)); why != api.ErrLong || packets(n.Flights()) != was {
			t.Errorf("Send of a message too many: %v", why)
		}
		unsure(t, n, 0, 1, api.MaxFlights)
	}
	refused(0)
	refused(api.MaxMessage + 1)
	if n.Send(2, 1, nil) != api.ErrNode || n.Send(0, -1, nil) != api.ErrNode {
		t.Error("no ErrNode ahead of ErrLong")
	}
	sends(t, n, 1, 0, "other")
	sends(t, n, 0, 0, "itself")
	for n.Lose(0) == api.OK {
	}
	refused(0)
	all(t, n.Tick(0), n.Deliver(1), n.Deliver(1)) // behind the one to itself
	refused(0)
	l := n.Flights()
	if a := l[len(l)-1]; !a.Ack || a.Seq != 2 {
		t.Fatal(a)
	}
	all(t, n.Deliver(len(l)-1))
	unsure(t, n, 0, 1, api.MaxFlights-2)
	sends(t, n, 0, 1, "u", "v")
	refused(0)
	all(t, n.Down(0))
	if why := n.Send(0, 1, nil); why != api.ErrNode {
		t.Errorf("from one that is down, with too many: %v", why)
	}
}

// P6.1: a way's numbers go on when its messages are told to have come; only those that are unsure count against MaxFlights.
func TestSendOn(t *testing.T) {
	n := network(t, 1)
	for i := range 3 * api.MaxFlights {
		sends(t, n, 0, 0, fmt.Sprint(i))
		if l := n.Flights(); len(l) != 1 || l[0].Seq != uint64(i)+1 {
			t.Fatalf("%d: %v", i, l)
		}
		drain(t, n)
	}
	unsure(t, n, 0, 0, 0)
	for i := range 3 * api.MaxFlights {
		if m, is, why := n.Recv(0); string(m.B) != fmt.Sprint(i) || m.From != 0 || !is || why != api.OK {
			t.Fatalf("%d: %v %v %v", i, m, is, why)
		}
	}
	gets(t, n, 0, "")
}

// P6.2: nothing waits, one does, several of several nodes do: in the order in which they came, each once.
func TestRecv(t *testing.T) {
	n := network(t, 3)
	m, is, why := n.Recv(0)
	if m.From != 0 || m.B != nil || is || why != api.OK {
		t.Errorf("%v %v %v", m, is, why)
	}
	sends(t, n, 2, 0, "a")
	gets(t, n, 0, "") // it is only under way
	all(t, n.Deliver(0))
	gets(t, n, 0, "2a")
	gets(t, n, 0, "")
	sends(t, n, 1, 0, "b", "c")
	sends(t, n, 2, 0, "d")
	sends(t, n, 0, 0, "e")
	sends(t, n, 1, 2, "f")
	drain(t, n)
	gets(t, n, 1, "")
	m, is, why = n.Recv(0)
	if m.From != 1 || string(m.B) != "b" || !is || why != api.OK {
		t.Errorf("%v %v %v", m, is, why)
	}
	if w, why := n.Waits(0); w != 3 || why != api.OK {
		t.Error(w, why)
	}
	sends(t, n, 1, 0, "g")
	drain(t, n)
	gets(t, n, 0, "1c 2d 0e 1g")
	gets(t, n, 2, "1f")
}

// P6.2: a place below 0, and one behind the last: ErrFlight, and nothing is changed; the last one is there.
func TestPlaces(t *testing.T) {
	n := network(t, 2)
	for flights := range 4 {
		was := told(n, 2)
		for _, i := range []int{-1, -2, math.MinInt, flights, flights + 1, math.MaxInt} {
			for k, why := range []api.Errno{n.Deliver(i), n.Lose(i), n.Twice(i)} {
				if why != api.ErrFlight || told(n, 2) != was {
					t.Errorf("place %d of %d, answer %d: %v", i, flights, k, why)
				}
			}
		}
		for i := range flights {
			for k, call := range []func(*simnet.Net, int) api.Errno{(*simnet.Net).Deliver, (*simnet.Net).Lose, (*simnet.Net).Twice} {
				c := n.Clone()
				all(t, call(c, i))
				if got, want := len(c.Flights()), flights+[]int{0, -1, 1}[k]; got != want {
					t.Errorf("place %d of %d, answer %d: %d on the way, not %d", i, flights, k, got, want)
				}
			}
		}
		sends(t, n, 0, 1, "x")
	}
}

// P6.2: Lose and Twice take and put just that packet, and change nothing else.
func TestLoseTwice(t *testing.T) {
	n := network(t, 3)
	sends(t, n, 0, 1, "a", "b", "c")
	sends(t, n, 2, 1, "d")
	all(t, n.Lose(1))
	flies(t, n, `0>1#1@1"a" 0>1#3@1"c" 2>1#1@1"d"`)
	all(t, n.Twice(1))
	flies(t, n, `0>1#1@1"a" 0>1#3@1"c" 2>1#1@1"d" 0>1#3@1"c"`)
	unsure(t, n, 0, 1, 3)
	all(t, n.Deliver(0), n.Twice(3))
	flies(t, n, `0>1#3@1"c" 2>1#1@1"d" 0>1#3@1"c" 1>0!#1@1"" 1>0!#1@1""`)
	all(t, n.Down(0), n.Up(0), n.Twice(0)) // as it is: of its elder epoch
	flies(t, n, `0>1#3@1"c" 2>1#1@1"d" 0>1#3@1"c" 1>0!#1@1"" 1>0!#1@1"" 0>1#3@1"c"`)
	all(t, n.Lose(5), n.Lose(0))
	flies(t, n, `2>1#1@1"d" 0>1#3@1"c" 1>0!#1@1"" 1>0!#1@1""`)
	gets(t, n, 1, "0a")
}

// P6.3: Tick sends by To, rising, and by number, all that is unsure, also to nodes that are down and to itself; what is told to have come it does not send.
func TestTick(t *testing.T) {
	n := network(t, 4)
	all(t, n.Tick(1))
	flies(t, n, "")
	sends(t, n, 1, 3, "a")
	sends(t, n, 1, 0, "b", "c")
	sends(t, n, 2, 0, "other")
	sends(t, n, 1, 1, "d")
	sends(t, n, 1, 3, "e", "")
	all(t, n.Down(3))
	for n.Lose(0) == api.OK {
	}
	all(t, n.Tick(1), n.Tick(0))
	flies(t, n, `1>0#1@1"b" 1>0#2@1"c" 1>1#1@1"d" 1>3#1@1"a" 1>3#2@1"e" 1>3#3@1""`)
	all(t, n.Deliver(0), n.Deliver(5)) // b comes, and is told
	unsure(t, n, 1, 0, 1)
	all(t, n.Deliver(0), n.Deliver(0)) // c and d come, and are not told
	unsure(t, n, 1, 0, 1)
	unsure(t, n, 1, 1, 1)
	for n.Lose(0) == api.OK {
	}
	all(t, n.Tick(1))
	flies(t, n, `1>0#2@1"c" 1>1#1@1"d" 1>3#1@1"a" 1>3#2@1"e" 1>3#3@1""`)
	all(t, n.Tick(1)) // behind what is on the way already
	flies(t, n, `1>0#2@1"c" 1>1#1@1"d" 1>3#1@1"a" 1>3#2@1"e" 1>3#3@1"" 1>0#2@1"c" 1>1#1@1"d" 1>3#1@1"a" 1>3#2@1"e" 1>3#3@1""`)
	drain(t, n)
	for n.Lose(0) == api.OK {
	}
	all(t, n.Tick(1))
	flies(t, n, `1>3#1@1"a" 1>3#2@1"e" 1>3#3@1""`)
	gets(t, n, 0, "1b 1c")
	gets(t, n, 1, "1d")
}

// 6.2, P6.1, P6.2, P6.3: when MaxFlights packets are on the way, what is sent is lost at once: a message, which stays unsure, what is there twice, what a Tick sends; an answer takes the place of what came.
func TestFull(t *testing.T) {
	n := network(t, 3)
	for i := range api.MaxFlights {
		sends(t, n, 0, i%2, fmt.Sprint(i))
	}
	was := packets(n.Flights())
	still := func(why api.Errno) {
		t.Helper()
		if l := n.Flights(); why != api.OK || packets(l) != was || len(l) != api.MaxFlights {
			t.Errorf("%v, %d on the way", why, len(l))
		}
	}
	still(n.Send(0, 1, []byte("late")))
	still(n.Send(2, 0, []byte("lost")))
	unsure(t, n, 0, 1, api.MaxFlights/2+1)
	unsure(t, n, 2, 0, 1)
	still(n.Twice(0))
	still(n.Twice(api.MaxFlights - 1))
	still(n.Tick(0))
	still(n.Tick(2))
	all(t, n.Deliver(1))
	l := n.Flights()
	if a := l[len(l)-1]; len(l) != api.MaxFlights || !a.Ack || a.Seq != 1 || a.From != 1 || a.To != 0 {
		t.Errorf("%d on the way, the last %v", len(l), a)
	}
	all(t, n.Lose(0), n.Lose(0), n.Tick(2), n.Send(2, 1, []byte("last"))) // room for two
	l = n.Flights()
	if a, b := l[len(l)-2], l[len(l)-1]; len(l) != api.MaxFlights || string(a.B) != "lost" || string(b.B) != "last" {
		t.Errorf("%d on the way, the last %v %v", len(l), a, b)
	}
	all(t, n.Lose(0), n.Tick(0)) // of all that are sent again, the first has room
	l = n.Flights()
	if a := l[len(l)-1]; len(l) != api.MaxFlights || a.To != 0 || a.Seq != 1 || string(a.B) != "0" {
		t.Errorf("%d on the way, the last %v", len(l), a)
	}
}

// Example 1.
func TestExampleOrder(t *testing.T) {
	n := network(t, 2)
	sends(t, n, 0, 1, "a", "b")
	all(t, n.Deliver(1))
	gets(t, n, 1, "")
	flies(t, n, `0>1#1@1"a" 1>0!#0@1""`)
	all(t, n.Deliver(0))
	flies(t, n, `1>0!#0@1"" 1>0!#1@1""`)
	all(t, n.Tick(0))
	flies(t, n, `1>0!#0@1"" 1>0!#1@1"" 0>1#1@1"a" 0>1#2@1"b"`)
	drain(t, n)
	gets(t, n, 1, "0a 0b")
	unsure(t, n, 0, 1, 0)
}

// Example 2.
func TestExampleEpoch(t *testing.T) {
	n := network(t, 2)
	sends(t, n, 0, 1, "a", "b")
	sends(t, n, 1, 0, "c")
	all(t, n.Deliver(0), n.Down(1), n.Up(1))
	drain(t, n)
	gets(t, n, 0, "")
	gets(t, n, 1, "")
	sends(t, n, 0, 1, "d")
	flies(t, n, `0>1#1@2"d"`)
}
