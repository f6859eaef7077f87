package snapshot

import (
	"slices"
	"strconv"
	"strings"

	"lockstep/api"
	"lockstep/simfs"
)

const (
	longestName = 40
	fileDigits  = 16
	freshEnd    = ".new" // of the file that is not yet under its number
)

// Save writes a snapshot to a disk, whole or not at all.
func Save(f *simfs.FS, name string, s api.Snap) api.Errno {
	if why := canAsk(f, name); why != api.OK {
		return why
	}
	b, why := Encode(s)
	if why != api.OK {
		return why
	}
	return inTurn(
		func() api.Errno { return removeFresh(f, name) },
		func() api.Errno { return put(f, name, s.No, b) },
		f.SyncNames,
		func() api.Errno { return removeBelow(f, name, s.No) },
		f.SyncNames,
	)
}

// Latest is the last snapshot that is there.
func Latest(f *simfs.FS, name string) (api.Snap, bool, api.Errno) {
	if why := canAsk(f, name); why != api.OK {
		return api.Snap{}, false, why
	}
	for _, no := range slices.Backward(numbers(f, name)) {
		b, _ := f.Read(fileName(name, no)) // it was listed just now
		s, why := Decode(b)
		if why == api.OK && s.No == no {
			return s, true, api.OK
		}
	}
	return api.Snap{}, false, api.OK
}

// Numbers is those of all files of a name.
func Numbers(f *simfs.FS, name string) ([]uint64, api.Errno) {
	if why := canAsk(f, name); why != api.OK {
		return nil, why
	}
	return numbers(f, name), api.OK
}

// canAsk tells what is wrong with a disk and a name.
func canAsk(f *simfs.FS, name string) api.Errno {
	if f == nil {
		return api.ErrArg
	}
	isOther := func(c rune) bool { return (c < 'a' || c > 'z') && (c < '0' || c > '9') && c != '_' }
	if name == "" || len(name) > longestName || strings.ContainsFunc(name, isOther) {
		return api.ErrName
	}
	return api.OK
}

// fileName is the name of the file of a number.
func fileName(name string, no uint64) string {
	digits := strconv.FormatUint(no, 16)
	return name + "." + strings.Repeat("0", fileDigits-len(digits)) + digits
}

// numbers is those of all files that are named as the one of their number is. (They rise as the names do.)
func numbers(f *simfs.FS, name string) []uint64 {
	var l []uint64
	for _, file := range f.List() {
		no, err := strconv.ParseUint(strings.TrimPrefix(file, name+"."), 16, 64)
		if err == nil && fileName(name, no) == file {
			l = append(l, no)
		}
	}
	return l
}

// removeFresh takes away what a Save left that did not come to its end.
func removeFresh(f *simfs.FS, name string) api.Errno {
	if !slices.Contains(f.List(), name+freshEnd) {
		return api.OK
	}
	return f.Remove(name + freshEnd)
}

// put puts bytes into the file of a number. They stand fast ahead of its being named so, so that behind a crash they are there whole, or not under that name.
func put(f *simfs.FS, name string, no uint64, b []byte) api.Errno {
	fresh := name + freshEnd
	if why := f.Create(fresh); why != api.OK {
		return why
	}
	why := inTurn(
		func() api.Errno { return f.Append(fresh, b) },
		func() api.Errno { return f.Sync(fresh) },
		func() api.Errno { return f.Rename(fresh, fileName(name, no)) },
	)
	if why != api.OK {
		f.Remove(fresh) // if that is refused, too, the next Save does it
	}
	return why
}

// removeBelow takes away all files of lower numbers.
func removeBelow(f *simfs.FS, name string, no uint64) api.Errno {
	for _, old := range numbers(f, name) {
		if old >= no {
			break
		}
		if why := f.Remove(fileName(name, old)); why != api.OK {
			return why
		}
	}
	return api.OK
}

// inTurn does one thing behind the other, up to the first that is refused: its error.
func inTurn(things ...func() api.Errno) api.Errno {
	for _, do := range things {
		if why := do(); why != api.OK {
			return why
		}
	}
	return api.OK
}
