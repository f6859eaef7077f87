package simnet_test

import (
	"testing"

	"lockstep/api"
	"lockstep/simnet"
)

// 6.2, P6.2: a packet that comes twice is answered twice, but its message waits once.
func TestComesTwice(t *testing.T) {
	n := network(t, 2)
	sends(t, n, 0, 1, "a")
	all(t, n.Twice(0), n.Deliver(0), n.Deliver(0))
	flies(t, n, `1>0!#1@1"" 1>0!#1@1""`)
	gets(t, n, 1, "0a")
	all(t, n.Twice(0), n.Deliver(0))
	unsure(t, n, 0, 1, 0)
	drain(t, n)
	unsure(t, n, 0, 1, 0)
	gets(t, n, 1, "")
	gets(t, n, 0, "")
}

// 6.2, P6.2: a message whose number is past, and one whose number can't come yet, do not wait, but are answered with how many came.
func TestComesOutOfOrder(t *testing.T) {
	n := network(t, 2)
	sends(t, n, 0, 1, "a", "b", "c", "d")
	all(t, n.Twice(0), n.Twice(1))                   // a b c d a b
	all(t, n.Deliver(2), n.Deliver(1), n.Deliver(0)) // c, b: too early; a
	flies(t, n, `0>1#4@1"d" 0>1#1@1"a" 0>1#2@1"b" 1>0!#0@1"" 1>0!#0@1"" 1>0!#1@1""`)
	all(t, n.Deliver(2), n.Deliver(1), n.Deliver(0)) // b; a: past; d: too early, as c is lost
	flies(t, n, `1>0!#0@1"" 1>0!#0@1"" 1>0!#1@1"" 1>0!#2@1"" 1>0!#2@1"" 1>0!#2@1""`)
	gets(t, n, 1, "0a 0b")
	unsure(t, n, 0, 1, 4)
	all(t, n.Deliver(0))
	unsure(t, n, 0, 1, 4)
	drain(t, n)
	unsure(t, n, 0, 1, 2)
	all(t, n.Tick(0))
	flies(t, n, `0>1#3@1"c" 0>1#4@1"d"`)
	drain(t, n)
	gets(t, n, 1, "0c 0d")
	unsure(t, n, 0, 1, 0)
}

// 6.2, P6.2: what tells of as many or fewer than are told already changes nothing.
func TestTellsLate(t *testing.T) {
	n := network(t, 2)
	sends(t, n, 0, 1, "a", "b", "c")
	all(t, n.Deliver(0), n.Deliver(0), n.Deliver(0), n.Twice(1))
	flies(t, n, `1>0!#1@1"" 1>0!#2@1"" 1>0!#3@1"" 1>0!#2@1""`)
	all(t, n.Deliver(1))
	unsure(t, n, 0, 1, 1)
	all(t, n.Deliver(0), n.Deliver(1))
	unsure(t, n, 0, 1, 1)
	sends(t, n, 0, 1, "d")
	all(t, n.Tick(0))
	flies(t, n, `1>0!#3@1"" 0>1#4@1"d" 0>1#3@1"c" 0>1#4@1"d"`)
	all(t, n.Deliver(0))
	unsure(t, n, 0, 1, 1)
	drain(t, n)
	unsure(t, n, 0, 1, 0)
	gets(t, n, 1, "0a 0b 0c 0d")
}

// 6.2, P6.2: what tells is of the way from its To to its From: the way the other way round knows nothing of it.
func TestTellsItsWay(t *testing.T) {
	n := network(t, 3)
	sends(t, n, 0, 1, "a", "b")
	sends(t, n, 1, 0, "c", "d")
	sends(t, n, 0, 2, "e")
	sends(t, n, 2, 1, "f")
	all(t, n.Deliver(0), n.Deliver(0))
	for n.Lose(0) == api.OK && len(n.Flights()) > 1 {
	}
	flies(t, n, `1>0!#2@1""`)
	all(t, n.Deliver(0))
	for from, row := range [][]int{{0, 0, 1}, {2, 0, 0}, {0, 1, 0}} {
		for to, want := range row {
			unsure(t, n, from, to, want)
		}
	}
	flies(t, n, "") // what tells is not answered
}

// 6.2, P6.2: a packet whose To is down does nothing, and is not answered; neither does what tells.
func TestComesToDown(t *testing.T) {
	n := network(t, 2)
	sends(t, n, 0, 1, "a", "b")
	sends(t, n, 0, 0, "c")
	all(t, n.Deliver(0), n.Down(1))
	flies(t, n, `0>1#2@1"b" 0>0#1@1"c" 1>0!#1@1""`)
	all(t, n.Deliver(0))
	flies(t, n, `0>0#1@1"c" 1>0!#1@1""`)
	all(t, n.Down(0), n.Deliver(0), n.Deliver(0))
	flies(t, n, "")
	unsure(t, n, 0, 1, 2)
	unsure(t, n, 0, 0, 1)
}

// 6.2, P6.2: a packet whose From is down comes nonetheless, and is answered.
func TestComesFromDown(t *testing.T) {
	n := network(t, 2)
	sends(t, n, 0, 1, "a")
	sends(t, n, 1, 0, "b")
	all(t, n.Deliver(0), n.Deliver(0), n.Down(1))
	flies(t, n, `1>0!#1@1"" 0>1!#1@1""`)
	all(t, n.Deliver(0), n.Deliver(0))
	unsure(t, n, 0, 1, 0)
	unsure(t, n, 1, 0, 1)
	n = network(t, 2)
	sends(t, n, 0, 1, "a")
	all(t, n.Down(0), n.Deliver(0))
	flies(t, n, `1>0!#1@1""`)
	gets(t, n, 1, "0a")
}

// 6.2, P6.4: packets of an elder epoch do nothing, messages as what tells, though their numbers would fit; and are not answered.
func TestComesOfElderEpoch(t *testing.T) {
	for node := range 2 {
		n := network(t, 2)
		sends(t, n, 0, 1, "a", "b")
		sends(t, n, 1, 0, "c")
		all(t, n.Deliver(0), n.Down(node), n.Up(node))
		sends(t, n, 0, 1, "A", "B")
		sends(t, n, 1, 0, "C")
		flies(t, n, `0>1#2@1"b" 1>0#1@1"c" 1>0!#1@1"" 0>1#1@2"A" 0>1#2@2"B" 1>0#1@2"C"`)
		if node == 0 {
			gets(t, n, 1, "0a") // what waits elsewhere stays
		}
		for range 3 {
			all(t, n.Deliver(0))
		}
		flies(t, n, `0>1#1@2"A" 0>1#2@2"B" 1>0#1@2"C"`)
		unsure(t, n, 0, 1, 2)
		unsure(t, n, 1, 0, 1)
		drain(t, n)
		gets(t, n, 1, "0A 0B")
		gets(t, n, 0, "1C")
		unsure(t, n, 0, 1, 0)
		unsure(t, n, 1, 0, 0)
	}
}

// 6.2: an elder packet does nothing also when a way has gone through several epochs, whichever end came up.
func TestManyEpochs(t *testing.T) {
	n := network(t, 3)
	for i := range 6 {
		sends(t, n, 0, 1, "x")
		sends(t, n, 0, 0, "s")
		sends(t, n, 2, 1, "y")
		all(t, n.Down(i%2), n.Up(i%2))
	}
	flies(t, n, `0>1#1@1"x" 0>0#1@1"s" 2>1#1@1"y" 0>1#1@2"x" 0>0#1@2"s" 2>1#2@1"y" `+
		`0>1#1@3"x" 0>0#2@2"s" 2>1#1@2"y" 0>1#1@4"x" 0>0#1@3"s" 2>1#2@2"y" `+
		`0>1#1@5"x" 0>0#2@3"s" 2>1#1@3"y" 0>1#1@6"x" 0>0#1@4"s" 2>1#2@3"y"`)
	drain(t, n)
	for i := range 3 {
		want := ""
		if i == 0 {
			want = "0s"
		}
		gets(t, n, i, want)
	}
	unsure(t, n, 2, 1, 0)
	unsure(t, n, 0, 0, 0)
}

// From arguments alone; and a network of no making does not panic.
func TestNoMaking(t *testing.T) {
	var n simnet.Net
	n.Send(0, 0, nil)
	n.Recv(0)
	n.Waits(0)
	n.Flights()
	n.Deliver(0)
	n.Lose(0)
	n.Twice(0)
	n.Tick(0)
	n.Unsure(0, 0)
	n.Down(0)
	n.Up(0)
	n.Is(0)
	c := n.Clone()
	c.Send(0, 0, nil)
}
