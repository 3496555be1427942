package draws_test

import (
	"testing"

	"trunkline/draws"
)

// The row of the seed 0 is that of SplitMix64.
func TestRow(t *testing.T) {
	for i, want := range []uint64{0xe220a8397b1dcdaf, 0x6e789e6aa1b965f4, 0x06c45d188009454f} {
		if got := draws.At(0, i); got != want {
			t.Errorf("At(0, %d): %x; want %x", i, got, want)
		}
	}
}

// P6: a draw hangs on its seed and its place alone.
func TestAgain(t *testing.T) {
	for place := range 100 {
		if draws.At(7, place) != draws.At(7, place) {
			t.Fatal("another draw at", place)
		}
	}
}

// No two places of a row, and no two rows, have the same draw.
func TestUnlike(t *testing.T) {
	seen := map[uint64]bool{}
	for seed := range uint64(100) {
		for place := -50; place < 50; place++ {
			draw := draws.At(seed, place)
			if seen[draw] {
				t.Fatal("twice:", seed, place)
			}
			seen[draw] = true
		}
	}
}
