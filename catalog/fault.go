package catalog

import "lockstep/api"

// fault is what is wrong, and where. What comes upon it gives up with it, however deep in a declaration that is.
type fault struct {
	at  int
	why api.Errno
}

// attempt is the fault that do gave up with, or none. (Any other panic would be a slip of this package's own: it is not hidden.)
func attempt(do func()) (wrong fault) {
	defer func() {
		switch x := recover().(type) {
		case nil:
		case fault:
			wrong = x
		default:
			panic(x)
		}
	}()
	do()
	return fault{}
}

// refuse gives up, if it is so.
func refuse(so bool, at int, why api.Errno) {
	if so {
		panic(fault{at, why})
	}
}
