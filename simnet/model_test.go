package simnet_test

import (
	"fmt"
	"math/rand"
	"slices"
	"strings"
	"testing"

	"lockstep/api"
	"lockstep/simnet"
)

// The model tells the words of 6.2 in another way than the network does: it keeps all messages of an epoch for ever, and counts how often each node came up, from which a way's epoch follows.
type model struct {
	down    []bool
	ups     []int
	waits   [][]api.Message
	ways    [][]modelWay // by from, by to
	flights []api.Packet // their bytes are never changed
}

type modelWay struct {
	sent       []string
	told, came int
}

// act is a call that may change a network.
type act struct {
	what string
	a, b int
	text string
}

func newModel(nodes int) *model {
	m := &model{down: make([]bool, nodes), ups: make([]int, nodes), waits: make([][]api.Message, nodes)}
	for range nodes {
		m.ways = append(m.ways, make([]modelWay, nodes))
	}
	return m
}

func (m *model) clone() *model {
	c := &model{slices.Clone(m.down), slices.Clone(m.ups), nil, nil, slices.Clone(m.flights)}
	for i := range m.down {
		c.waits = append(c.waits, slices.Clone(m.waits[i]))
		c.ways = append(c.ways, slices.Clone(m.ways[i]))
		for k, w := range c.ways[i] {
			c.ways[i][k].sent = slices.Clone(w.sent)
		}
	}
	return c
}

func (m *model) none(node int) bool { return node < 0 || node >= len(m.down) }

func (m *model) noneOrDown(node int) bool { return m.none(node) || m.down[node] }

func (m *model) epoch(from, to int) uint64 {
	if from == to {
		return 1 + uint64(m.ups[from])
	}
	return 1 + uint64(m.ups[from]) + uint64(m.ups[to])
}

func (m *model) fly(p api.Packet) {
	m.flights = append(m.flights, p)
	m.flights = m.flights[:min(len(m.flights), 4096)]
}

func (m *model) do(a act) string {
	var why api.Errno
	switch a.what {
	case "send":
		why = m.send(a.a, a.b, a.text)
	case "recv":
		return m.recv(a.a)
	case "deliver", "lose", "twice":
		why = m.flight(a.what, a.a)
	case "tick":
		why = m.tick(a.a)
	case "down", "up":
		why = m.turn(a.what, a.a)
	}
	return fmt.Sprint(why)
}

func (m *model) send(from, to int, text string) api.Errno {
	if m.none(from) || m.none(to) || m.down[from] {
		return api.ErrNode
	}
	w := &m.ways[from][to]
	if len(text) > 65536 || len(w.sent)-w.told >= 4096 {
		return api.ErrLong
	}
	w.sent = append(w.sent, text)
	m.fly(api.Packet{From: from, To: to, Seq: uint64(len(w.sent)), Epoch: m.epoch(from, to), B: []byte(text)})
	return api.OK
}

func (m *model) recv(node int) string {
	if m.noneOrDown(node) {
		return answer(api.Message{}, false, api.ErrNode)
	}
	l := m.waits[node]
	if len(l) == 0 {
		return answer(api.Message{}, false, api.OK)
	}
	m.waits[node] = l[1:]
	return answer(l[0], true, api.OK)
}

func answer(x api.Message, is bool, why api.Errno) string {
	return fmt.Sprintf("%d %q %v %d", x.From, x.B, is, why)
}

func (m *model) flight(what string, i int) api.Errno {
	if i < 0 || i >= len(m.flights) {
		return api.ErrFlight
	}
	p := m.flights[i]
	if what == "twice" {
		m.fly(p)
		return api.OK
	}
	m.flights = append(slices.Clone(m.flights[:i]), m.flights[i+1:]...)
	if what == "deliver" && p.Epoch == m.epoch(p.From, p.To) && !m.down[p.To] {
		m.come(p)
	}
	return api.OK
}

func (m *model) come(p api.Packet) {
	seq := int(p.Seq)
	if p.Ack {
		w := &m.ways[p.To][p.From]
		if seq > w.told && seq <= len(w.sent) {
			w.told = seq
		}
		return
	}
	w := &m.ways[p.From][p.To]
	if seq-1 == w.came {
		w.came = seq
		m.waits[p.To] = append(m.waits[p.To], api.Message{From: p.From, B: p.B})
	}
	m.fly(api.Packet{From: p.To, To: p.From, Ack: true, Seq: uint64(w.came), Epoch: p.Epoch})
}

func (m *model) tick(node int) api.Errno {
	if m.noneOrDown(node) {
		return api.ErrNode
	}
	for to, w := range m.ways[node] {
		for k := w.told; k < len(w.sent); k++ {
			m.fly(api.Packet{From: node, To: to, Seq: uint64(k) + 1, Epoch: m.epoch(node, to), B: []byte(w.sent[k])})
		}
	}
	return api.OK
}

func (m *model) turn(what string, node int) api.Errno {
	switch {
	case m.none(node):
		return api.ErrNode
	case what == "down" && m.down[node]:
		return api.ErrNode
	case what == "up" && !m.down[node]:
		return api.ErrArg
	case what == "down":
		m.down[node] = true
		m.waits[node] = nil
	default:
		m.down[node] = false
		m.ups[node]++
		for k := range m.ways {
			m.ways[k][node], m.ways[node][k] = modelWay{}, modelWay{}
		}
	}
	return api.OK
}

func do(n *simnet.Net, a act) string {
	switch a.what {
	case "send":
		return fmt.Sprint(n.Send(a.a, a.b, []byte(a.text)))
	case "recv":
		return answer(n.Recv(a.a))
	case "deliver":
		return fmt.Sprint(n.Deliver(a.a))
	case "lose":
		return fmt.Sprint(n.Lose(a.a))
	case "twice":
		return fmt.Sprint(n.Twice(a.a))
	case "tick":
		return fmt.Sprint(n.Tick(a.a))
	case "down":
		return fmt.Sprint(n.Down(a.a))
	case "up":
		return fmt.Sprint(n.Up(a.a))
	}
	return "no such call"
}

func packets(l []api.Packet) string {
	var s strings.Builder
	for _, p := range l {
		fmt.Fprintf(&s, "%d>%d", p.From, p.To)
		if p.Ack {
			s.WriteByte('!')
		}
		fmt.Fprintf(&s, "#%d@%d%q ", p.Seq, p.Epoch, p.B)
	}
	return s.String()
}

// told is all that a network tells, of its nodes and of one below and behind them.
func told(n *simnet.Net, nodes int) string {
	var s strings.Builder
	s.WriteString(packets(n.Flights()))
	for i := -1; i <= nodes; i++ {
		w, why := n.Waits(i)
		fmt.Fprint(&s, "; ", i, n.Is(i), w, why)
		for k := -1; k <= nodes; k++ {
			u, why := n.Unsure(i, k)
			fmt.Fprint(&s, " ", u, why)
		}
	}
	return s.String()
}

func (m *model) told() string {
	var s strings.Builder
	s.WriteString(packets(m.flights))
	nodes := len(m.down)
	for i := -1; i <= nodes; i++ {
		w, why := 0, api.ErrNode
		if !m.noneOrDown(i) {
			w, why = len(m.waits[i]), api.OK
		}
		fmt.Fprint(&s, "; ", i, !m.noneOrDown(i), w, why)
		for k := -1; k <= nodes; k++ {
			u, why := 0, api.ErrNode
			if !m.none(i) && !m.none(k) {
				u, why = len(m.ways[i][k].sent)-m.ways[i][k].told, api.OK
			}
			fmt.Fprint(&s, " ", u, why)
		}
	}
	return s.String()
}

// same does a on both, and holds them against each other.
func same(t *testing.T, n *simnet.Net, m *model, a act, path []act) {
	t.Helper()
	if got, want := do(n, a), m.do(a); got != want {
		t.Fatalf("%v %v: %v, not %v", path, a, got, want)
	}
	if got, want := told(n, len(m.down)), m.told(); got != want {
		t.Fatalf("%v %v:\n%s\nnot\n%s", path, a, got, want)
	}
}

func made(t *testing.T, nodes int, acts ...act) (*simnet.Net, *model) {
	t.Helper()
	n, m := network(t, nodes), newModel(nodes)
	for i, a := range acts {
		same(t, n, m, a, acts[:i])
	}
	return n, m
}

func few() []act {
	return []act{
		{"send", 0, 1, "a"}, {"send", 1, 0, "b"}, {"send", 0, 0, ""},
		{"recv", 0, 0, ""}, {"recv", 1, 0, ""},
		{"deliver", 0, 0, ""}, {"deliver", 1, 0, ""}, {"deliver", 2, 0, ""},
		{"lose", 0, 0, ""}, {"lose", 1, 0, ""}, {"twice", 0, 0, ""}, {"twice", 1, 0, ""},
		{"tick", 0, 0, ""}, {"tick", 1, 0, ""},
		{"down", 0, 0, ""}, {"down", 1, 0, ""}, {"up", 0, 0, ""}, {"up", 1, 0, ""},
	}
}

// every goes through all acts of a depth, each on a Clone of its own, and at the end holds the network itself against what it was ahead of that.
func every(t *testing.T, n *simnet.Net, m *model, depth int, path []act) {
	if depth == 0 {
		return
	}
	for _, a := range few() {
		c, d := n.Clone(), m.clone()
		same(t, c, d, a, path)
		every(t, c, d, depth-1, append(path, a))
	}
	if got, want := told(n, len(m.down)), m.told(); got != want {
		t.Fatalf("%v, behind its Clones:\n%s\nnot\n%s", path, got, want)
	}
}

// P6.1, P6.2, P6.3, P6.4: all that four calls can come to, on a network of two nodes.
func TestEveryFew(t *testing.T) {
	n, m := made(t, 2)
	every(t, n, m, 4, nil)
}

// P6.1, P6.2, P6.3, P6.4: all that three calls can come to, on networks with messages under way, messages that wait, answers that are late, nodes that are down, ways that began anew.
func TestEveryFewBehind(t *testing.T) {
	a, b, c := act{"send", 0, 1, "a"}, act{"send", 0, 1, "b"}, act{"send", 1, 0, "c"}
	self := act{"send", 0, 0, "s"}
	come, second := act{"deliver", 0, 0, ""}, act{"deliver", 1, 0, ""}
	twice := act{"twice", 0, 0, ""}
	down0, up0 := act{"down", 0, 0, ""}, act{"up", 0, 0, ""}
	down1, up1 := act{"down", 1, 0, ""}, act{"up", 1, 0, ""}
	for _, begin := range [][]act{
		{a, b, second, come},
		{a, twice, come, come, b, c},
		{a, b, come, come, second, c, come},
		{self, self, come, a, down1},
		{a, come, self, down0, up0, self},
		{a, down1, up1, a, twice},
		{a, b, c, come, come, come, down0},
		{c, c, come, down0, up0, c, come},
	} {
		n, m := made(t, 2, begin...)
		every(t, n, m, 3, begin)
	}
}

// randomAct is any call, on the nodes and now and then on none, at places that are there and, now and then, that are not.
func randomAct(r *rand.Rand, m *model, wrong bool) act {
	nodes, flights := len(m.down), len(m.flights)
	node, place := r.Intn(nodes), r.Intn(flights+1)
	if wrong {
		node, place = r.Intn(nodes+4)-2, r.Intn(flights+4)-2
	}
	switch k := r.Intn(100); {
	case k < 30:
		to := r.Intn(nodes)
		if wrong {
			to = r.Intn(nodes+4) - 2
		}
		return act{"send", node, to, fmt.Sprintf("%*d", r.Intn(5), r.Intn(1000))[r.Intn(2):]}
	case k < 42:
		return act{"recv", node, 0, ""}
	case k < 58:
		return act{"deliver", place, 0, ""}
	case k < 72:
		return act{"deliver", 0, 0, ""}
	case k < 80:
		return act{"lose", place, 0, ""}
	case k < 86:
		return act{"twice", place, 0, ""}
	case k < 94:
		return act{"tick", node, 0, ""}
	case k < 96:
		return act{"down", node, 0, ""}
	}
	return act{"up", node, 0, ""}
}

// P6.1, P6.2, P6.3, P6.4: long goings on, on networks and on Clones of them that go on beside them.
func TestRandomGoings(t *testing.T) {
	r := rand.New(rand.NewSource(6))
	for range 250 {
		nodes := 1 + r.Intn(5)
		n, m := made(t, nodes)
		type pair struct {
			n *simnet.Net
			m *model
		}
		all := []pair{{n, m}}
		for range 250 {
			if r.Intn(20) == 0 && len(all) < 4 {
				p := all[r.Intn(len(all))]
				all = append(all, pair{p.n.Clone(), p.m.clone()})
			}
			p := all[r.Intn(len(all))]
			same(t, p.n, p.m, randomAct(r, p.m, r.Intn(10) == 0), nil)
		}
		for _, p := range all {
			if got, want := told(p.n, nodes), p.m.told(); got != want {
				t.Fatalf("%s\nnot\n%s", got, want)
			}
		}
	}
}
