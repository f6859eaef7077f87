package simnet

import (
	"slices"

	"lockstep/api"
)

// packet is a message of a way, or, with ack, what tells how many came on it: that goes from the way's end to its beginning.
type packet struct {
	way        ends
	ack        bool
	seq, epoch uint64
	text       string
}

// goes is from whom, to whom.
func (p packet) goes() ends {
	if p.ack {
		return ends{p.way.to, p.way.from}
	}
	return p.way
}

// Flights is all that is on the way.
func (n *Net) Flights() []api.Packet {
	var all []api.Packet
	for _, p := range n.flights {
		e := p.goes()
		all = append(all, api.Packet{From: e.from, To: e.to, Ack: p.ack, Seq: p.seq, Epoch: p.epoch, B: []byte(p.text)})
	}
	return all
}

// Deliver lets one come.
func (n *Net) Deliver(i int) api.Errno {
	p, why := n.take(i)
	if why == api.OK {
		n.come(p)
	}
	return why
}

// Lose loses one.
func (n *Net) Lose(i int) api.Errno {
	_, why := n.take(i)
	return why
}

// Twice lets one be there twice.
func (n *Net) Twice(i int) api.Errno {
	if !n.flies(i) {
		return api.ErrFlight
	}
	n.fly(n.flights[i])
	return api.OK
}

// flies: whether there is a packet at a place.
func (n *Net) flies(i int) bool { return i >= 0 && i < len(n.flights) }

// take takes a packet off the way.
func (n *Net) take(i int) (packet, api.Errno) {
	if !n.flies(i) {
		return packet{}, api.ErrFlight
	}
	p := n.flights[i]
	n.flights = slices.Delete(n.flights, i, i+1)
	return p, api.OK
}

// fly sends a packet, which is lost if there is no room for it.
func (n *Net) fly(p packet) {
	if len(n.flights) < api.MaxFlights {
		n.flights = append(n.flights, p)
	}
}

// come does what a packet does where it goes to.
func (n *Net) come(p packet) {
	w := n.ways[p.way]
	if p.epoch != w.epoch() || !n.Is(p.goes().to) {
		return
	}
	if p.ack {
		n.ways[p.way] = w.tell(p.seq)
		return
	}
	if p.seq == w.came+1 {
		w.came++
		n.ways[p.way] = w
		to := &n.nodes[p.way.to]
		to.waits = append(to.waits, message{p.way.from, p.text})
	}
	n.fly(packet{way: p.way, ack: true, seq: w.came, epoch: p.epoch})
}
