package simfs

import "lockstep/api"

// stopped is the count of a disk that does nothing any more.
const stopped = -1

// Create makes a file.
func (f *FS) Create(name string) api.Errno {
	if !canBe(name) {
		return api.ErrName
	}
	if f.files[name] != nil {
		return api.ErrThere
	}
	if len(f.files) >= api.MaxFiles {
		return api.ErrMany
	}
	if f.refuses() {
		return api.ErrStop
	}
	if f.files == nil {
		f.files = make(map[string]*file)
	}
	f.files[name] = &file{}
	f.open = append(f.open, func(files map[string]*file) { delete(files, name) })
	return api.OK
}

// Append puts bytes behind those of a file.
func (f *FS) Append(name string, b []byte) api.Errno {
	x, why := f.named(name)
	if why != api.OK {
		return why
	}
	if len(b) > f.quota-f.Used() {
		return api.ErrQuota
	}
	was := f.stop
	if f.refuses() {
		if was != stopped { // the very change at which the disk stops: half of it is done
			x.bytes = append(x.bytes, b[:len(b)/2]...)
		}
		return api.ErrStop
	}
	x.bytes = append(x.bytes, b...)
	return api.OK
}

// Cut shortens a file.
func (f *FS) Cut(name string, n int) api.Errno {
	x, why := f.named(name)
	if why != api.OK {
		return why
	}
	if n < 0 || n > len(x.bytes) {
		return api.ErrArg
	}
	if f.refuses() {
		return api.ErrStop
	}
	x.bytes = x.bytes[:n]
	x.fast = min(x.fast, n)
	return api.OK
}

// Rename gives a file another name, which another file loses by it.
func (f *FS) Rename(from, to string) api.Errno {
	if !canBe(to) {
		return api.ErrName
	}
	x, why := f.named(from)
	if why != api.OK {
		return why
	}
	if f.refuses() {
		return api.ErrStop
	}
	if from == to {
		return api.OK
	}
	lost := f.files[to]
	delete(f.files, from)
	f.files[to] = x
	f.open = append(f.open, func(files map[string]*file) {
		files[from] = files[to]
		delete(files, to)
		giveBack(files, to, lost)
	})
	return api.OK
}

// Remove takes a file's name.
func (f *FS) Remove(name string) api.Errno {
	lost, why := f.named(name)
	if why != api.OK {
		return why
	}
	if f.refuses() {
		return api.ErrStop
	}
	delete(f.files, name)
	f.open = append(f.open, func(files map[string]*file) { giveBack(files, name, lost) })
	return api.OK
}

// Sync lets a file's bytes stand fast.
func (f *FS) Sync(name string) api.Errno {
	x, why := f.named(name)
	if why != api.OK {
		return why
	}
	if f.refuses() {
		return api.ErrStop
	}
	x.fast = len(x.bytes)
	return api.OK
}

// SyncNames lets all names stand fast.
func (f *FS) SyncNames() api.Errno {
	if f.refuses() {
		return api.ErrStop
	}
	f.open = nil
	return api.OK
}

// Stop lets the disk do nothing any more from a further change on, until it crashes.
func (f *FS) Stop(n int) { f.stop = max(0, n) }

// refuses counts a change that would be made, and says whether it is not, as the disk has stopped or stops at it.
func (f *FS) refuses() bool {
	switch {
	case f.stop == 0:
		return false
	case f.stop > 1:
		f.stop--
		return false
	}
	f.stop = stopped
	return true
}

// giveBack gives a name to the file that had lost it, if one had. It is given as a copy, as a Clone of the disk may give the same file back, too.
func giveBack(files map[string]*file, name string, lost *file) {
	if lost != nil {
		files[name] = lost.copied()
	}
}
