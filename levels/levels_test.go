package levels_test

import (
	"math"
	"testing"

	"smartcard/levels"
)

// valid is the definition, by the bits.
func valid(level int) bool {
	const mac, enc, rmac, renc = 1, 2, 0x10, 0x20
	bits := map[int]bool{}
	for rest := level; rest != 0; rest &= rest - 1 {
		bits[rest&-rest] = true
	}
	for bit := range bits {
		switch {
		case bit != mac && bit != enc && bit != rmac && bit != renc:
			return false
		case (bit == enc || bit == rmac) && !bits[mac]:
			return false
		case bit == renc && !(bits[enc] && bits[rmac]):
			return false
		}
	}
	return true
}

func TestValid(t *testing.T) {
	count := 0
	for level := -1 << 16; level < 1<<16; level++ {
		if levels.Valid(level) != valid(level) {
			t.Fatal("Valid of", level, "is", !valid(level))
		}
		if valid(level) {
			count++
		}
	}
	if count != 6 {
		t.Error("there are", count, "levels")
	}
}

func TestGreatNumbers(t *testing.T) {
	for _, level := range []int{0, 1, 3, 0x11, 0x13, 0x33} {
		for shift := 8; shift < 64; shift++ {
			if levels.Valid(level+1<<shift) || levels.Valid(level-1<<shift) {
				t.Error("Valid of", level, "with the bit", shift)
			}
		}
	}
	if levels.Valid(math.MaxInt) || levels.Valid(math.MinInt) {
		t.Error("Valid of the greatest or the smallest number")
	}
}
