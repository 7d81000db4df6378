package shas

import (
	"crypto/sha256"
	"math/big"
	"sync"
	"testing"
)

// fresh leaves the variables as at the start of the program, here and when the test ends: the tests of shas_test.go come later, and make first calls of their own.
func fresh(t *testing.T) {
	reset := func() {
		laid = sync.Once{}
		rounds = [64]uint32{}
	}
	reset()
	t.Cleanup(reset)
}

// fraction returns the first 32 bits behind the point of the root-th root of n: the root of n * 2^(32 * root), without its bits before the point.
func fraction(n int64, root int64) uint32 {
	power := new(big.Int).Lsh(big.NewInt(n), uint(32*root))
	low, high := big.NewInt(0), new(big.Int).Lsh(big.NewInt(n), 33)
	for {
		middle := new(big.Int).Add(low, high)
		middle.Rsh(middle, 1)
		if middle.Cmp(low) == 0 {
			return uint32(low.Uint64())
		}
		if new(big.Int).Exp(middle, big.NewInt(root), nil).Cmp(power) <= 0 {
			low = middle
		} else {
			high = middle
		}
	}
}

// Promise 1.1: the constants are what the document derives them from.
func TestConstantsAreCubeRootsOfPrimes(t *testing.T) {
	k, i := constants(), 0
	for n := int64(2); i < 64; n++ {
		if !big.NewInt(n).ProbablyPrime(0) { // exact for numbers as small as these
			continue
		}
		if want := fraction(n, 3); k[i] != want {
			t.Errorf("constant %d: %08x, not %08x", i, k[i], want)
		}
		i++
	}
}

// Section Ways of chapter 1: Sum lays the constants out, all of them, and no second time.
func TestConstantsAreLaidOutOnce(t *testing.T) {
	fresh(t)
	Sum(nil)
	if rounds != constants() {
		t.Errorf("after the first call: %08x", rounds)
	}
	rounds = [64]uint32{1}
	Sum([]byte("abc"))
	if rounds != [64]uint32{1} {
		t.Errorf("laid out a second time: %08x", rounds)
	}
}

// Promise 1.2: an answer does not hang on what the variables hold.
func TestAnswersDoNotHangOnTheVariables(t *testing.T) {
	fresh(t)
	for _, b := range [][]byte{nil, []byte("abc"), make([]byte, 200)} {
		want := sha256.Sum256(b)
		twice := sha256.Sum256(want[:])
		for call := range 3 {
			rounds = [64]uint32{uint32(call), 63: 7}
			if got := Sum(b); got != want {
				t.Errorf("Sum of %d bytes: %x", len(b), got)
			}
			if got := Twice(b); got != twice {
				t.Errorf("Twice of %d bytes: %x", len(b), got)
			}
		}
	}
	if !Less([32]byte{1}, [32]byte{2}) || Less([32]byte{2}, [32]byte{1}) {
		t.Error("Less")
	}
}
