package proc_test

import (
	"fmt"

	"lockstep/api"
)

// spy is a base that notes how it is called, and does what a test wants.
type spy struct {
	under   api.Base // does what it is asked; none: nothing
	calls   []string
	mark    int // what Mark tells, if nothing is under it
	run     func(no int, x api.Stmt, params []api.Col, args api.Row) ([]api.Row, api.Errno)
	ran     int
	atMark  func()
	atBack  func() api.Errno
	isQuiet bool // notes no statements
}

func (b *spy) Run(x api.Stmt, params []api.Col, args api.Row) ([]api.Row, api.Errno) {
	if b.isQuiet {
		b.calls = append(b.calls, "run")
	} else {
		b.calls = append(b.calls, fmt.Sprintf("%s | %v | %s", printed(x), params, told([]api.Row{args})))
	}
	b.ran++
	if b.run != nil {
		rows, why := b.run(b.ran-1, x, params, args)
		if rows != nil || why != api.OK {
			return rows, why
		}
	}
	if b.under == nil {
		return nil, api.OK
	}
	return b.under.Run(x, params, args)
}

func (b *spy) Mark() int {
	b.calls = append(b.calls, "mark")
	if b.atMark != nil {
		b.atMark()
	}
	if b.under == nil {
		return b.mark
	}
	return b.under.Mark()
}

func (b *spy) Back(mark int) api.Errno {
	b.calls = append(b.calls, fmt.Sprint("back ", mark))
	if b.atBack != nil {
		if why := b.atBack(); why != api.OK {
			return why
		}
	}
	if b.under == nil {
		return api.OK
	}
	return b.under.Back(mark)
}
