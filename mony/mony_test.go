package mony_test

import (
	"math"
	"math/big"
	"slices"
	"testing"

	"lighterage/mony"
)

const most = 2100000000000000

// edges are numbers around zero, the cap, its half and its double, and the widths of integers, and what wraps the cap and its double round to zero.
func edges() []uint64 {
	return []uint64{
		0, 1, 2,
		math.MaxUint32, math.MaxUint32 + 1,
		most/2 - 1, most / 2, most/2 + 1,
		most - 2, most - 1, most, most + 1, most + 2,
		2*most - 1, 2 * most, 2*most + 1,
		math.MaxInt64 - 1, math.MaxInt64, math.MaxInt64 + 1,
		math.MaxUint64 - 2*most + 1, math.MaxUint64 - most + 1,
		math.MaxUint64 - 1, math.MaxUint64,
	}
}

func whole(v uint64) *big.Int {
	return new(big.Int).SetUint64(v)
}

// added is Sum by numbers without an end: what each number and each sum up to it are, is held against the cap.
func added(l []uint64) (uint64, bool) {
	sum := new(big.Int)
	for _, v := range l {
		sum.Add(sum, whole(v))
		if whole(v).Cmp(big.NewInt(most)) > 0 || sum.Cmp(big.NewInt(most)) > 0 {
			return 0, false
		}
	}
	return sum.Uint64(), true
}

// Promise 5.1.
func TestOkUpToTheCap(t *testing.T) {
	for _, v := range []uint64{0, 1, 5000, math.MaxUint32, 1 << 50, most - 1, most} {
		if !mony.Ok(v) {
			t.Errorf("%d is not ok", v)
		}
	}
	for _, v := range []uint64{most + 1, most + 2, 2 * most, 1 << 51, math.MaxInt64, math.MaxInt64 + 1, math.MaxInt64 + most, math.MaxUint64 - most + 1, math.MaxUint64} {
		if mony.Ok(v) {
			t.Errorf("%d is ok", v)
		}
	}
}

// Promise 5.1: what the cap allows.
func TestSum(t *testing.T) {
	for _, c := range []struct {
		l    []uint64
		want uint64
	}{
		{nil, 0},
		{[]uint64{}, 0},
		{[]uint64{0}, 0},
		{[]uint64{0, 0, 0}, 0},
		{[]uint64{7}, 7},
		{[]uint64{7, 7}, 14},
		{[]uint64{1, 20, 300, 4000}, 4321},
		{[]uint64{math.MaxUint32, 1}, 1 << 32},
		{[]uint64{most}, most},
		{[]uint64{0, most, 0}, most},
		{[]uint64{most - 1, 1}, most},
		{[]uint64{1, most - 1}, most},
		{[]uint64{most - 2, 1}, most - 1},
		{[]uint64{most / 2, most / 2}, most},
		{[]uint64{most / 4, most / 4, most / 4, most / 4}, most},
	} {
		if got, ok := mony.Sum(c.l...); got != c.want || !ok {
			t.Errorf("%d: %d, %t", c.l, got, ok)
		}
	}
}

// Promise 5.1 and Rule 4: what is above the cap, wherever it stands, and what would be within it if the sum wrapped round. Beside the false stands 0.
func TestSumAboveTheCap(t *testing.T) {
	for _, l := range [][]uint64{
		{most + 1},
		{math.MaxUint64},
		{most, 1},
		{1, most},
		{most, most},
		{most / 2, most/2 + 1},
		{most, 0, 0, 1},
		{5, 6, most + 1, 7},
		{5, 6, 7, most + 1},
		{0, math.MaxUint64},
		{math.MaxUint64, 1},
		{1, math.MaxUint64},
		{1, math.MaxUint64, 1},
		{math.MaxUint64, math.MaxUint64},
		{most, math.MaxUint64 - most + 1},
		{most, most, math.MaxUint64 - 2*most + 1},
		{most, most, math.MaxUint64 - 2*most + 2, 5},
		{math.MaxInt64 + 1, math.MaxInt64 + 1},
	} {
		if got, ok := mony.Sum(l...); got != 0 || ok {
			t.Errorf("%d: %d, %t", l, got, ok)
		}
	}
}

// Promises 5.1 and 5.2: all lists of up to three of the edges, and so each of them in each place.
func TestSumOfEdges(t *testing.T) {
	for _, a := range edges() {
		for _, b := range edges() {
			sumsAre(t, a)
			sumsAre(t, a, b)
			for _, c := range edges() {
				sumsAre(t, a, b, c)
			}
		}
	}
}

func sumsAre(t *testing.T, l ...uint64) {
	t.Helper()
	want, may := added(l)
	if got, ok := mony.Sum(l...); got != want || ok != may {
		t.Errorf("%d: %d, %t, not %d, %t", l, got, ok, want, may)
	}
}

// Promises 5.1 and 5.2: long lists, of which one reaches the cap, one is above it by its last number alone, and one wraps round to 0 in the end.
func TestSumOfManyNumbers(t *testing.T) {
	const n = 1 << 18
	l := slices.Repeat([]uint64{most / n}, n)
	sum := uint64(most/n) * n
	if got, ok := mony.Sum(l...); got != sum || !ok {
		t.Errorf("%d, %t, not %d", got, ok, sum)
	}
	l = append(l, most-sum)
	if got, ok := mony.Sum(l...); got != most || !ok {
		t.Errorf("up to the cap: %d, %t", got, ok)
	}
	if got, ok := mony.Sum(append(l, 0, 1)...); got != 0 || ok {
		t.Errorf("beyond the cap: %d, %t", got, ok)
	}
	if got, ok := mony.Sum(slices.Repeat([]uint64{1 << 46}, n)...); got != 0 || ok {
		t.Errorf("wrapped round: %d, %t", got, ok)
	}
}

// Promise 5.1. The cap concerns Sum alone: numbers above it are subtracted like others.
func TestLess(t *testing.T) {
	for _, c := range []struct{ a, b, want uint64 }{
		{0, 0, 0},
		{7, 0, 7},
		{7, 6, 1},
		{7, 7, 0},
		{5000, 4321, 679},
		{1 << 32, 1, math.MaxUint32},
		{most, 0, most},
		{most, 1, most - 1},
		{most, most, 0},
		{most + 1, 0, most + 1},
		{most + 1, most, 1},
		{math.MaxInt64 + 1, 1, math.MaxInt64},
		{math.MaxUint64, 0, math.MaxUint64},
		{math.MaxUint64, 1, math.MaxUint64 - 1},
		{math.MaxUint64, math.MaxUint64, 0},
	} {
		if got, ok := mony.Less(c.a, c.b); got != c.want || !ok {
			t.Errorf("%d - %d: %d, %t", c.a, c.b, got, ok)
		}
	}
}

// Promise 5.1 and Rule 4: beside the false stands 0.
func TestLessOfMoreThanThereIs(t *testing.T) {
	for _, c := range []struct{ a, b uint64 }{
		{0, 1},
		{6, 7},
		{math.MaxUint32, math.MaxUint32 + 1},
		{0, most},
		{most - 1, most},
		{most, most + 1},
		{math.MaxInt64, math.MaxInt64 + 1},
		{1, math.MaxUint64},
		{0, math.MaxUint64},
		{math.MaxUint64 - 1, math.MaxUint64},
	} {
		if got, ok := mony.Less(c.a, c.b); got != 0 || ok {
			t.Errorf("%d - %d: %d, %t", c.a, c.b, got, ok)
		}
	}
}

// Promises 5.1 and 5.2: all pairs of the edges.
func TestLessOfEdges(t *testing.T) {
	for _, a := range edges() {
		for _, b := range edges() {
			left := new(big.Int).Sub(whole(a), whole(b))
			want, may := uint64(0), left.Sign() >= 0
			if may {
				want = left.Uint64()
			}
			if got, ok := mony.Less(a, b); got != want || ok != may {
				t.Errorf("%d - %d: %d, %t, not %d, %t", a, b, got, ok, want, may)
			}
		}
	}
}

// Promise 5.2: what is added can be taken away again, and the rest is what was there before.
func TestLessUndoesSum(t *testing.T) {
	for _, a := range edges() {
		for _, b := range edges() {
			sum, ok := mony.Sum(a, b)
			if !ok {
				continue
			}
			if left, ok := mony.Less(sum, b); left != a || !ok {
				t.Errorf("%d + %d - %d: %d, %t", a, b, b, left, ok)
			}
		}
	}
}

// Promise 5.2 and Rules 3 and 6: the results are the same each time, and the list stays, with the room behind it.
func TestArgumentsStay(t *testing.T) {
	for _, l := range [][]uint64{{3, 1, 2, 9, 9}, {most, 1, 2, 9, 9}, {1, most + 1, 2, 9, 9}} {
		before := slices.Clone(l)
		want, may := mony.Sum(l[:3]...)
		for range 3 {
			if got, ok := mony.Sum(l[:3]...); got != want || ok != may {
				t.Errorf("%d: %d, %t, before %d, %t", before[:3], got, ok, want, may)
			}
		}
		if !slices.Equal(l, before) {
			t.Errorf("%d has become %d", before, l)
		}
	}
}

// Promise 5.3.
func TestNoCallPanics(t *testing.T) {
	defer func() {
		if fault := recover(); fault != nil {
			t.Errorf("panic: %v", fault)
		}
	}()
	for _, a := range edges() {
		mony.Ok(a)
		for _, b := range edges() {
			mony.Less(a, b)
			mony.Sum(a, b, a, b)
		}
	}
	mony.Sum()
	mony.Sum(nil...)
	mony.Sum(edges()...)
	mony.Sum(make([]uint64, 1<<20)...)
}
