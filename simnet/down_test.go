package simnet_test

import (
	"testing"

	"lockstep/api"
)

// P6.4: Down lets what waits at a node be gone, and nothing else; twice it is ErrNode.
func TestDown(t *testing.T) {
	n := network(t, 3)
	sends(t, n, 0, 1, "a", "b")
	sends(t, n, 2, 1, "c")
	sends(t, n, 1, 2, "d")
	sends(t, n, 0, 1, "e")
	for range 4 {
		all(t, n.Deliver(0))
	}
	all(t, n.Down(1))
	if n.Is(1) || !n.Is(0) || !n.Is(2) {
		t.Error(n.Is(0), n.Is(1), n.Is(2))
	}
	flies(t, n, `0>1#3@1"e" 1>0!#1@1"" 1>0!#2@1"" 1>2!#1@1"" 2>1!#1@1""`)
	unsure(t, n, 0, 1, 3)
	unsure(t, n, 2, 1, 1)
	unsure(t, n, 1, 2, 1)
	was := told(n, 3)
	if why := n.Down(1); why != api.ErrNode || told(n, 3) != was {
		t.Error(why)
	}
	gets(t, n, 2, "1d")
	drain(t, n)
	all(t, n.Up(1))
	gets(t, n, 1, "")
	gets(t, n, 0, "")
}

// P6.4: Up of a node that is there is ErrArg, of none ErrNode, and changes nothing.
func TestUpRefused(t *testing.T) {
	n := network(t, 2)
	sends(t, n, 0, 1, "a", "b")
	sends(t, n, 1, 0, "c")
	all(t, n.Deliver(0))
	was := told(n, 2)
	for i, want := range []api.Errno{api.ErrArg, api.ErrArg, api.ErrNode} {
		if why := n.Up(i); why != want || told(n, 2) != was {
			t.Errorf("Up(%d): %v %s", i, why, told(n, 2))
		}
	}
	all(t, n.Down(0), n.Up(0))
	if why := n.Up(0); why != api.ErrArg {
		t.Error(why)
	}
	sends(t, n, 0, 1, "d")
	flies(t, n, `0>1#2@1"b" 1>0#1@1"c" 1>0!#1@1"" 0>1#1@2"d"`)
}

// P6.4: behind an Up all ways from the node and to it begin anew, each in its next epoch, the one to itself too; the others go on, and what waits elsewhere stays.
func TestUp(t *testing.T) {
	n := network(t, 3)
	for from := range 3 {
		for to := range 3 {
			sends(t, n, from, to, "x", "y")
		}
	}
	for range 9 { // of each way the first comes, the second is lost
		all(t, n.Deliver(0), n.Lose(0))
	}
	drain(t, n)
	all(t, n.Down(1), n.Up(1))
	for from := range 3 {
		for to := range 3 {
			want := 1
			if from == 1 || to == 1 {
				want = 0
			}
			unsure(t, n, from, to, want)
		}
	}
	gets(t, n, 0, "0x 1x 2x")
	gets(t, n, 1, "")
	gets(t, n, 2, "0x 1x 2x")
	all(t, n.Tick(1))
	flies(t, n, "")
	for from := range 3 {
		for to := range 3 {
			sends(t, n, from, to, "z")
		}
	}
	flies(t, n, `0>0#3@1"z" 0>1#1@2"z" 0>2#3@1"z" 1>0#1@2"z" 1>1#1@2"z" 1>2#1@2"z" 2>0#3@1"z" 2>1#1@2"z" 2>2#3@1"z"`)
	drain(t, n)
	gets(t, n, 0, "1z")
	gets(t, n, 1, "0z 1z 2z")
	gets(t, n, 2, "1z")
	all(t, n.Tick(0), n.Tick(2))
	drain(t, n)
	gets(t, n, 0, "0y 0z 2y 2z")
	gets(t, n, 1, "")
	gets(t, n, 2, "0y 0z 2y 2z")
}

// P6.4: messages that are under way from a node, to it, and from it to itself, when it goes down and comes up: none of them comes.
func TestUnderWay(t *testing.T) {
	n := network(t, 2)
	sends(t, n, 0, 1, "a")
	sends(t, n, 1, 0, "b")
	sends(t, n, 1, 1, "c")
	sends(t, n, 0, 0, "d")
	all(t, n.Down(1))
	sends(t, n, 0, 1, "e")
	c := n.Clone()
	drain(t, c) // while it is down: what goes from it comes, what goes to it does not
	gets(t, c, 0, "1b 0d")
	all(t, c.Up(1))
	gets(t, c, 1, "")
	unsure(t, c, 0, 1, 0)
	unsure(t, c, 1, 1, 0)
	all(t, n.Up(1))
	drain(t, n) // behind it: nothing from it or to it
	gets(t, n, 0, "0d")
	gets(t, n, 1, "")
	sends(t, n, 1, 1, "f")
	sends(t, n, 0, 1, "g")
	flies(t, n, `1>1#1@2"f" 0>1#1@2"g"`)
	drain(t, n)
	gets(t, n, 1, "1f 0g")
}

// P6.4: an Up while the other end is down begins their ways anew too.
func TestUpBesideDown(t *testing.T) {
	n := network(t, 2)
	sends(t, n, 0, 1, "a")
	all(t, n.Down(0), n.Down(1), n.Up(0))
	unsure(t, n, 0, 1, 0)
	sends(t, n, 0, 1, "b")
	all(t, n.Up(1))
	unsure(t, n, 0, 1, 0)
	sends(t, n, 0, 1, "c")
	flies(t, n, `0>1#1@1"a" 0>1#1@2"b" 0>1#1@3"c"`)
	drain(t, n)
	gets(t, n, 1, "0c")
	gets(t, n, 0, "")
}

// P6.4: Is: a node that is there; neither one that is down nor none.
func TestIs(t *testing.T) {
	n := network(t, 2)
	is := func(want ...bool) {
		t.Helper()
		for i, w := range want {
			if n.Is(i-1) != w {
				t.Errorf("Is(%d): not %v", i-1, w)
			}
		}
	}
	is(false, true, true, false)
	all(t, n.Down(0))
	is(false, false, true, false)
	all(t, n.Down(1), n.Up(0))
	is(false, true, false, false)
}

// P6.4: a Clone and its network go on beside each other, neither knows of the other; what both put behind the same list stands in each as it was put there.
func TestClone(t *testing.T) {
	for spare := range 9 { // lists with and without spare room
		n := network(t, 2)
		for range spare {
			sends(t, n, 0, 1, "x")
			all(t, n.Twice(0))
		}
		for range 2 * spare {
			all(t, n.Deliver(0))
		}
		for n.Lose(0) == api.OK {
		}
		sends(t, n, 0, 1, "y")
		c := n.Clone()
		sends(t, n, 0, 1, "n")
		sends(t, c, 0, 1, "c")
		all(t, n.Lose(1), n.Tick(0), c.Lose(1), c.Tick(0))
		drain(t, n)
		drain(t, c)
		sends(t, n, 1, 1, "N")
		sends(t, c, 1, 1, "C")
		drain(t, n)
		drain(t, c)
		want := ""
		for range spare {
			want += "0x "
		}
		d := n.Clone()
		gets(t, n, 1, want+"0y 0n 1N")
		gets(t, c, 1, want+"0y 0c 1C")
		gets(t, d, 1, want+"0y 0n 1N")
		all(t, c.Down(0), c.Down(1), c.Up(1))
		if !n.Is(0) || !n.Is(1) || c.Is(0) || !c.Is(1) || !d.Is(0) {
			t.Error("a network went with its Clone")
		}
		sends(t, n, 1, 0, "e")
		flies(t, n, `1>0#1@1"e"`)
		sends(t, c, 1, 0, "e")
		flies(t, c, `1>0#1@2"e"`)
		flies(t, d, "")
	}
}
