package simnet

// ends are a way's: from which node it goes, to which.
type ends struct{ from, to int }

// way is what its beginning knows of its messages, and its end. (They are kept only till they are told to have come: none of them is sent again behind that.)
type way struct {
	begun  uint64   // how often it began anew
	told   uint64   // how many are told to have come
	unsure []string // those behind them, by their numbers
	came   uint64   // how many came
}

func (w way) epoch() uint64 { return w.begun + 1 }

func (w way) sent() uint64 { return w.told + uint64(len(w.unsure)) }

// tell is the way when it is told that so many came; what comes late tells nothing new.
func (w way) tell(came uint64) way {
	if came > w.told && came <= w.sent() {
		w.unsure = behind(w.unsure, int(came-w.told))
		w.told = came
	}
	return w
}

func (n *Net) beginAnew(e ends) { n.ways[e] = way{begun: n.ways[e].begun + 1} }
