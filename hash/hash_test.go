package hash_test

import (
	"hash/fnv"
	"math/rand"
	"testing"

	"lockstep/hash"
)

func TestStart(t *testing.T) {
	if hash.Start != 0xcbf29ce484222325 || hash.On(hash.Start) != hash.Start || hash.On(7) != 7 {
		t.Error(hash.Start, hash.On(hash.Start), hash.On(7))
	}
}

// Cut anywhere, bytes have the library's hash of the whole.
func TestOn(t *testing.T) {
	r := rand.New(rand.NewSource(1))
	for range 2000 {
		b := make([]byte, r.Intn(40))
		r.Read(b)
		whole := fnv.New64a()
		whole.Write(b)
		for cut := range len(b) + 1 {
			h := hash.On(hash.On(hash.Start, b[:cut]...), b[cut:]...)
			if h != whole.Sum64() {
				t.Fatalf("%x cut at %d: %x, not %x", b, cut, h, whole.Sum64())
			}
		}
	}
}
