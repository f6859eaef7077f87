package ring_test

import (
	"encoding/hex"
	"math"
	"math/rand"
	"testing"

	"lockstep/api"
	"lockstep/ring"
	"lockstep/rowcode"
)

// P18.1: a part is from 0 to 63.
func TestWeightPart(t *testing.T) {
	for _, v := range edges() {
		for _, part := range []int{-1, -2, -63, -64, -256, math.MinInt, 64, 65, 128, 255, 256, 257, 1 << 32, math.MaxInt} {
			weightFails(t, v, part, api.ErrArg)
		}
		for part := range api.MaxParts {
			if got, want := weight(t, v, part), weighed(v, part); got != want {
				t.Errorf("Weight(%.20v, %d): %x, not %x", v, part, got, want)
			}
		}
	}
}

// P18.1: behind a part that can't be comes what is wrong with the value.
func TestWeightFlaw(t *testing.T) {
	for _, f := range flaws() {
		for _, part := range []int{0, 1, 31, 63} {
			weightFails(t, f.v, part, f.why)
		}
		for _, part := range []int{-1, 64, 256} {
			weightFails(t, f.v, part, api.ErrArg)
		}
	}
}

// byHand is a value's bytes and the part behind them, their hash, and what it becomes by 33, by 29 and by 32.
type byHand struct {
	v                api.Value
	part             int
	bytes            string
	h, h33, h29, h32 uint64
}

func byHands() []byHand {
	return []byHand{
		{null(), 0, "0100", 0x082f2207b4e88cc4, 0xdc91d1b06bdfd553, 0x62dce84804d10910, 0x62dce848660de158},
		{null(), 1, "0101", 0x082f2307b4e88e77, 0x65c1bf4a60efcf04, 0xef3ee3f19e8a8423, 0xef3ee3f171b467d2},
		{null(), 63, "013f", 0x082f0907b4e86249, 0xffacd6ce652bc692, 0x92b3a14a41113e75, 0x92b3a14ad3a29f3f},
		{num(1), 0, "02800000000000000027100100", 0xe9902d9de7f5f13b, 0x1086c443a840b319, 0x7cadff26fb1fd554, 0x7cadff2687b22a72},
		{num(1), 1, "02800000000000000027100101", 0xe9902c9de7f5ef88, 0xa06a6128864d653e, 0x8a76a5fc894dfe02, 0x8a76a5fc033b5bfe},
		{num(1), 63, "0280000000000000002710013f", 0xe9903a9de7f60752, 0xc90d9b6298d5b44c, 0xbb9cf6cdc894c238, 0xbb9cf6cd730834f5},
		{num(-1), 0, "027fffffffffffffffd8f00100", 0x9dcb73ad449cee5c, 0xaca6047f663f0652, 0x2aa0f5ae5055f2dd, 0x2aa0f5ae7af50773},
		{num(0), 1, "02800000000000000000000101", 0x3e3737c162c909bf, 0x7da6cef3c1a205cb, 0x7a09a359c7208cf9, 0x7a09a359bd292fa0},
		{num(0), 63, "0280000000000000000000013f", 0x3e376dc162c96581, 0x862a49b8a9b852f5, 0xdacdf95fc62fcef0, 0xdacdf95f1ce237af},
		{num(math.MinInt64), 0, "026c7800000000000000000100", 0x660a4fcf3bb8cde8, 0xc4c7ce11ce49773b, 0xf9ffda97bed14dd9, 0xf9ffda97472e974e},
		{num(math.MaxInt64), 63, "029387ffffffffffffd8f0013f", 0x849e169397bcf475, 0x20a2284547fcffec, 0x6fc861f8baa8793e, 0x6fc861f8d56018c6},
		{dec(10000), 0, "02800000000000000027100200", 0xe985fb9de7ed47c0, 0x7edf426eeb150b26, 0xbd8f6d297ace3aa5, 0xbd8f6d29c741578c},
		{dec(1), 1, "02800000000000000000010201", 0x358a56c15dde27eb, 0x03da78c984795b67, 0xc940cfd1178db887, 0xc940cfd1decd7756},
		{text(""), 0, "03000000", 0xed202287f403d086, 0xa3ffa89105ec5129, 0x6a874dca896ac235, 0x6a874dcae3ed8fff},
		{text("a"), 1, "0361000001", 0x8f66612c4cd7c4f0, 0xb43c82451525745e, 0xb8f909dea99a8fae, 0xb8f909de11638670},
		{text("\x00"), 63, "0300ff00003f", 0x9017250c25d99714, 0xd7b10731c7212cfa, 0xd028224fb5caf284, 0xd028224f65e2d0cb},
		{text("é"), 0, "03c3a9000000", 0xdf42e267c04781aa, 0xfcde6563bdb5d88d, 0x42fa95d8b26bbad0, 0x42fa95d8f0912f08},
		{truth(0), 1, "040001", 0xb6a72518586f3358, 0x3013d68c95a3f664, 0x0b55294f7dfe6a00, 0x0b55294f76ab434f},
		{truth(1), 0, "040100", 0xb6a3c018586c51e2, 0x5bd801a2a70ae086, 0xf0d5e7e7e236b10f, 0xf0d5e7e712e356e8},
	}
}

// P18.1: step by step, of numbers in both halves.
func TestWeightByHand(t *testing.T) {
	const times uint64 = 11400714819323198485
	for _, x := range byHands() {
		b, err := hex.DecodeString(x.bytes)
		if err != nil {
			t.Fatal(err)
		}
		if h := rowcode.Hash(b); h != x.h {
			t.Errorf("%s: %x, not %x", x.bytes, h, x.h)
		}
		if h := (x.h ^ x.h>>33) * times; h != x.h33 {
			t.Errorf("%s by 33: %x, not %x", x.bytes, h, x.h33)
		}
		if h := (x.h33 ^ x.h33>>29) * times; h != x.h29 {
			t.Errorf("%s by 29: %x, not %x", x.bytes, h, x.h29)
		}
		if h := x.h29 ^ x.h29>>32; h != x.h32 {
			t.Errorf("%s by 32: %x, not %x", x.bytes, h, x.h32)
		}
		if h := weight(t, x.v, x.part); h != x.h32 {
			t.Errorf("Weight(%v, %d): %x, not %x", x.v, x.part, h, x.h32)
		}
	}
}

// P18.1: of any values, by whole numbers without bounds.
func TestWeightModel(t *testing.T) {
	t.Parallel()
	r := rand.New(rand.NewSource(181))
	for range 20000 {
		v, part := drawn(r), r.Intn(api.MaxParts)
		if got, want := weight(t, v, part), weighed(v, part); got != want {
			t.Fatalf("Weight(%v, %d): %x, not %x", v, part, got, want)
		}
	}
}

// back is the number out of which a Weight came: each of its steps can be gone back.
func back(h uint64) uint64 {
	const times uint64 = 11400714819323198485
	inverse := times
	for range 6 {
		inverse *= 2 - times*inverse
	}
	h ^= h >> 32
	h *= inverse
	h ^= h>>29 ^ h>>58
	h *= inverse
	return h ^ h>>33
}

// P18.1: no two partitions want a value as much, as each Weight tells the hash that it came of, and this the part.
func TestWeightsDiffer(t *testing.T) {
	t.Parallel()
	for _, v := range many(rand.New(rand.NewSource(182)), 2000) {
		seen := map[uint64]int{}
		for part := range api.MaxParts {
			h := weight(t, v, part)
			if was := hashed(v, part).Uint64(); back(h) != was {
				t.Fatalf("Weight(%v, %d): %x, out of %x, not %x", v, part, h, back(h), was)
			}
			if other, is := seen[h]; is {
				t.Fatalf("Weight(%v): %x of %d and %d", v, h, other, part)
			}
			seen[h] = part
		}
	}
}

// P18.1: NULL has a Weight of each partition, as any value has, though it always belongs to the first.
func TestWeightNull(t *testing.T) {
	most := 0
	for part := range api.MaxParts {
		if weight(t, null(), part) > weight(t, null(), most) {
			most = part
		}
	}
	if p := of(t, null(), api.MaxParts); p != 0 || most == 0 {
		t.Errorf("Of(NULL, 64): %d, and %d wants it most", p, most)
	}
}

// Memory: the answer comes again the same.
func TestWeightAgain(t *testing.T) {
	for _, v := range edges() {
		first, _ := ring.Weight(v, 5)
		ring.Weight(num(3), 9)
		ring.Of(v, 64)
		if again, _ := ring.Weight(v, 5); again != first {
			t.Errorf("Weight(%.20v, 5): %x, then %x", v, first, again)
		}
	}
}
