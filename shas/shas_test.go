package shas_test

import (
	"bytes"
	"crypto/sha256"
	"encoding/hex"
	"strings"
	"sync"
	"testing"

	"lighterage/shas"
)

// message returns n bytes of which no two neighbours are alike, so that a byte out of its place shows.
func message(n int) []byte {
	b := make([]byte, n)
	for i := range b {
		b[i] = byte(i*7 + i/256*13 + 1)
	}
	return b
}

// Promises 1.2 and 1.3. It stands first, so that the first calls of all come at the same time.
func TestFirstCallsAtTheSameTime(t *testing.T) {
	want := sha256.Sum256([]byte("abc"))
	var got [32][32]byte
	var wait sync.WaitGroup
	for i := range got {
		wait.Go(func() { got[i] = shas.Sum([]byte("abc")) })
	}
	wait.Wait()
	for i := range got {
		if got[i] != want {
			t.Errorf("call %d: %x", i, got[i])
		}
	}
}

// Promise 1.1: the digests that FIPS 180-4 is told by.
func TestSumOfKnownMessages(t *testing.T) {
	for _, c := range []struct{ in, want string }{
		{"", "e3b0c44298fc1c149afbf4c8996fb92427ae41e4649b934ca495991b7852b855"},
		{"abc", "ba7816bf8f01cfea414140de5dae2223b00361a396177a9cb410ff61f20015ad"},
		{"abcdbcdecdefdefgefghfghighijhijkijkljklmklmnlmnomnopnopq", "248d6a61d20638b8e5c026930c3e6039a33ce45964ff2167f6ecedd419db06c1"},
		{"abcdefghbcdefghicdefghijdefghijkefghijklfghijklmghijklmnhijklmnoijklmnopjklmnopqklmnopqrlmnopqrsmnopqrstnopqrstu", "cf5b16a778af8380036ce59e7b0492370b249b11e8f07a51afac45037afee9d1"},
		{strings.Repeat("a", 1000000), "cdc76e5c9914fb9281a1c7e284d73e67f1809a48a497200e046d39ccc7112cd0"},
	} {
		if got := shas.Sum([]byte(c.in)); hex.EncodeToString(got[:]) != c.want {
			t.Errorf("%d bytes: %x", len(c.in), got)
		}
	}
}

// Promise 1.1: each length around the edges of the padding (55, 56, 63, 64 modulo 64), and lengths whose number of bits takes one, two, three and four bytes.
func TestSumOfEachLength(t *testing.T) {
	lengths := []int{8191, 8192, 8193, 1<<21 - 1, 1 << 21, 1<<21 + 1}
	for n := range 400 {
		lengths = append(lengths, n)
	}
	for _, n := range lengths {
		b := message(n)
		if got, want := shas.Sum(b), sha256.Sum256(b); got != want {
			t.Errorf("%d bytes: %x", n, got)
		}
	}
}

// Promise 1.1: bytes that look like padding are still part of the message.
func TestSumOfBytesLikePadding(t *testing.T) {
	for n := range 130 {
		zeros := make([]byte, n)
		marked := append([]byte{128}, zeros...)
		ones := bytes.Repeat([]byte{255}, n)
		for _, b := range [][]byte{zeros, marked, ones} {
			if got, want := shas.Sum(b), sha256.Sum256(b); got != want {
				t.Errorf("%x: %x", b, got)
			}
		}
	}
}

// Promise 1.1.
func TestTwiceIsSumOfSum(t *testing.T) {
	for _, c := range []struct{ in, want string }{
		{"", "5df6e0e2761359d30a8275058e299fcc0381534545f55cf43e41983f5d4c9456"},
		{"hello", "9595c9df90075148eb06860365df33584b75bff782a510c6cd4883a419833d50"},
	} {
		if got := shas.Twice([]byte(c.in)); hex.EncodeToString(got[:]) != c.want {
			t.Errorf("%q: %x", c.in, got)
		}
	}
	for n := range 200 {
		b := message(n)
		first := sha256.Sum256(b)
		if got, want := shas.Twice(b), sha256.Sum256(first[:]); got != want {
			t.Errorf("%d bytes: %x", n, got)
		}
	}
}

// Promise 1.1: each byte counts, as a number from 0 to 255, and an earlier one more than all later ones.
func TestLessByEachByte(t *testing.T) {
	for i := range 32 {
		var low, high [32]byte
		for k := i + 1; k < 32; k++ {
			low[k] = 255
		}
		for _, pair := range [][2]byte{{0, 1}, {127, 128}, {1, 255}, {254, 255}} {
			low[i], high[i] = pair[0], pair[1]
			if !shas.Less(low, high) {
				t.Errorf("place %d: %v is not less", i, pair)
			}
			if shas.Less(high, low) {
				t.Errorf("place %d: %v is less the other way round", i, pair)
			}
		}
	}
}

// Promise 1.1.
func TestLessOfEqualOnes(t *testing.T) {
	for _, a := range [][32]byte{{}, {1}, {31: 1}, {0: 255, 31: 255}, shas.Sum(nil)} {
		if shas.Less(a, a) {
			t.Errorf("%x is less than itself", a)
		}
	}
}

// Promise 1.2: the same bytes have the same results, whatever was asked between.
func TestSameResultsEachTime(t *testing.T) {
	sums, twices := map[int][32]byte{}, map[int][32]byte{}
	for range 3 {
		for n := range 150 {
			sum, twice := shas.Sum(message(n)), shas.Twice(message(n))
			if old, in := sums[n]; in && old != sum {
				t.Errorf("Sum of %d bytes: %x, then %x", n, old, sum)
			}
			if old, in := twices[n]; in && old != twice {
				t.Errorf("Twice of %d bytes: %x, then %x", n, old, twice)
			}
			sums[n], twices[n] = sum, twice
		}
	}
}

// Promise 1.2: neither the bytes nor the room behind them change, and what lies in that room does not count.
func TestBytesAndSpareCapacityStay(t *testing.T) {
	for n := range 200 {
		all := bytes.Repeat([]byte{170}, n+200)
		before := bytes.Clone(all)
		sum, twice := shas.Sum(all[:n]), shas.Twice(all[:n])
		if !bytes.Equal(all, before) {
			t.Fatalf("%d bytes: changed", n)
		}
		if want := bytes.Repeat([]byte{170}, n); sum != shas.Sum(want) || twice != shas.Twice(want) {
			t.Errorf("%d bytes: the room behind them counts", n)
		}
	}
}

// Promise 1.3, and the first rule: nil is no bytes.
func TestNilIsNoBytes(t *testing.T) {
	none := sha256.Sum256(nil)
	for _, b := range [][]byte{nil, {}, make([]byte, 0, 64), message(64)[64:]} {
		if got := shas.Sum(b); got != none {
			t.Errorf("Sum: %x", got)
		}
		if got := shas.Twice(b); got != sha256.Sum256(none[:]) {
			t.Errorf("Twice: %x", got)
		}
	}
}

// Promise 1.3: no length, with or without room behind it, makes a call panic.
func TestNoCallPanics(t *testing.T) {
	n := 0
	defer func() {
		if x := recover(); x != nil {
			t.Errorf("%d bytes: panic: %v", n, x)
		}
	}()
	for n = range 300 {
		for _, b := range [][]byte{message(n), message(n + 100)[:n], message(n + 100)[100:], message(n)[:n:n]} {
			shas.Less(shas.Sum(b), shas.Twice(b))
		}
	}
}
