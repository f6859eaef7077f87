package simfs

// Crash leaves what stands fast, and of the rest what a script says.
func (f *FS) Crash(keeps []int, names int) {
	f.loseNames(names)
	f.loseBytes(keeps)
	f.Stop(0)
}

// loseNames takes the open changes of names back but for the first ones: the last one first, as each is taken back from what it had come to.
func (f *FS) loseNames(names int) {
	for i := len(f.open) - 1; i >= kept(names, len(f.open)); i-- {
		f.open[i](f.files)
	}
	f.open = nil
}

// loseBytes cuts each file to what stands fast and the first ones of the rest.
func (f *FS) loseBytes(keeps []int) {
	turn := 0
	for _, name := range f.List() {
		x := f.files[name]
		loose := len(x.bytes) - x.fast
		if loose == 0 {
			continue
		}
		if len(keeps) > 0 {
			x.fast += kept(keeps[turn%len(keeps)], loose)
		}
		turn++
		x.bytes = x.bytes[:x.fast]
	}
}

// kept is how many of so many stay, as a number of the script says.
func kept(says, many int) int { return max(0, says) % (many + 1) }
