package cmdlog

import (
	"bytes"
	"strconv"
	"strings"

	"lockstep/api"
	"lockstep/simfs"
)

const (
	leastSize   = 64
	mostSize    = 1 << 22
	longestName = 40
	fileDigits  = 16
)

// found is a file as Open finds it: it may be without records, and torn.
type found struct {
	file
	whole int // up to where it is whole
	size  int
}

// Open: the log of a name, as the disk has it; its files are full from so many bytes on.
func Open(f *simfs.FS, name string, size int) (*Log, api.Errno) {
	if f == nil || size < leastSize || size > mostSize {
		return nil, api.ErrArg
	}
	if !canBe(name) {
		return nil, api.ErrName
	}
	l := &Log{disk: f, name: name, size: size}
	all, why := l.find()
	if why != api.OK {
		return nil, why
	}
	if !isLog(all) {
		return nil, api.ErrLog
	}
	if why := l.mend(all); why != api.OK {
		return nil, why
	}
	if why := l.syncAll(); why != api.OK {
		return nil, why
	}
	l.fast = l.Last()
	return l, api.OK
}

// canBe: whether a text can be a log's name.
func canBe(name string) bool {
	for i := range len(name) {
		c := name[i]
		if (c < 'a' || c > 'z') && (c < '0' || c > '9') && c != '_' {
			return false
		}
	}
	return name != "" && len(name) <= longestName
}

// fileName is the name of the file of a number.
func (l *Log) fileName(no uint64) string {
	digits := strconv.FormatUint(no, 16)
	return l.name + "." + strings.Repeat("0", fileDigits-len(digits)) + digits
}

// fileNumber is the number of the file of a name, and whether it is a file of the log: whether it is named as that of its number is.
func (l *Log) fileNumber(name string) (uint64, bool) {
	no, err := strconv.ParseUint(strings.TrimPrefix(name, l.name+"."), 16, 64)
	if err != nil || l.fileName(no) != name {
		return 0, false
	}
	return no, true
}

// find looks for the log's files, by their numbers (which rise as the names do).
func (l *Log) find() ([]found, api.Errno) {
	var all []found
	for _, name := range l.disk.List() {
		no, is := l.fileNumber(name)
		if !is {
			continue
		}
		b, why := l.disk.Read(name)
		if why != api.OK {
			return nil, why
		}
		all = append(all, look(no, b))
	}
	return all, api.OK
}

// look goes through the bytes of the file of a number, as far as it is whole.
func look(no uint64, b []byte) found {
	x := found{file: file{no: no}, size: len(b)}
	if !bytes.HasPrefix(b, head(no)) {
		return x
	}
	x.whole = headSize
	for {
		text, whole := readRecord(no, b[x.whole:])
		if !whole {
			return x
		}
		x.at = append(x.at, x.whole)
		x.whole += lengthSize + len(text) + hashSize
		no++
	}
}

// isLog: whether files are a log, of which the last one may have come to an end anywhere.
func isLog(all []found) bool {
	for i, x := range all {
		switch {
		case x.no == 0 || len(x.at) > 0 && x.last() < x.no: // it has a record 0: its numbers begin anew
			return false
		case i > 0 && x.no != all[i-1].last()+1:
			return false
		case i < len(all)-1 && (len(x.at) == 0 || x.whole < x.size):
			return false
		}
	}
	return len(all) != 1 || len(all[0].at) > 0 || all[0].no == 1
}

// mend takes away what is not whole of the last file that was found, and keeps the rest.
func (l *Log) mend(all []found) api.Errno {
	for _, x := range all {
		name := l.fileName(x.no)
		if len(x.at) == 0 {
			return l.disk.Remove(name)
		}
		if x.whole < x.size {
			if why := l.disk.Cut(name, x.whole); why != api.OK {
				return why
			}
		}
		l.files = append(l.files, x.file)
	}
	return api.OK
}

// syncAll lets all of the log's files stand fast.
func (l *Log) syncAll() api.Errno {
	for _, name := range l.Files() {
		if why := l.disk.Sync(name); why != api.OK {
			return why
		}
	}
	return l.disk.SyncNames()
}
