// Package hash is the 64-bit hash FNV-1a, which goes on behind bytes whose hash is known.
package hash

// Start is the hash of no bytes.
const Start uint64 = 14695981039346656037

const times = 1099511628211

// On is the hash of bytes that stand behind others, whose hash is h.
func On(h uint64, b ...byte) uint64 {
	for _, x := range b {
		h = (h ^ uint64(x)) * times
	}
	return h
}
