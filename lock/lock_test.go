package lock_test

import (
	"math"
	"math/big"
	"math/rand"
	"reflect"
	"slices"
	"testing"

	"lighterage/api"
	"lighterage/lock"
)

const (
	line   = 500000000 // the first Lock that is a time
	never  = math.MaxUint32
	off    = 1 << 31
	byTime = 1 << 22
	edge   = 1<<40 - 1 // the last height, and the last time, that the promises are about
)

// of returns a transaction of Version 2 with an In for each Seq; no other field of an In is zero.
func of(at uint32, seqs ...uint32) api.Tx {
	t := api.Tx{Version: 2, Lock: at, Outs: []api.Out{{Value: 5, Script: []byte{0x6a}}}}
	for i, seq := range seqs {
		t.Ins = append(t.Ins, api.In{Prev: api.ID{byte(i), 9}, Vout: uint32(i) + 1, Script: []byte{7}, Seq: seq, Witness: [][]byte{{8}}})
	}
	return t
}

func finalIs(t *testing.T, x api.Tx, height, time int, want bool) {
	t.Helper()
	if got := lock.Final(x, height, time); got != want {
		t.Errorf("Lock %d, %d Ins, height %d, time %d: %t", x.Lock, len(x.Ins), height, time, got)
	}
}

func locksAre(t *testing.T, x api.Tx, coins []api.Coin, height, time int, want bool) {
	t.Helper()
	if got := lock.Locks(x, coins, height, time); got != want {
		t.Errorf("Version %d, %d Ins, %d coins, height %d, time %d: %t", x.Version, len(x.Ins), len(coins), height, time, got)
	}
}

// lockedIs asks whether one In with this Seq may spend the coin.
func lockedIs(t *testing.T, seq uint32, c api.Coin, height, time int, want bool) {
	t.Helper()
	if got := lock.Locks(of(0, seq), []api.Coin{c}, height, time); got != want {
		t.Errorf("Seq %#x, coin %v, height %d, time %d: %t", seq, c, height, time, got)
	}
}

// atMost reports whether from + steps * n is at most now, by numbers without an end.
func atMost(from, steps int, n uint32, now int) bool {
	sum := new(big.Int).Mul(big.NewInt(int64(steps)), big.NewInt(int64(n)))
	return sum.Add(sum, big.NewInt(int64(from))).Cmp(big.NewInt(int64(now))) <= 0
}

// final is Final in the chapter's words.
func final(x api.Tx, height, time int) bool {
	each := true
	for _, in := range x.Ins {
		each = each && in.Seq == never
	}
	if x.Lock < line {
		return x.Lock == 0 || !atMost(height, 0, 0, int(x.Lock)) || each
	}
	return !atMost(time, 0, 0, int(x.Lock)) || each
}

// locks is Locks in the chapter's words.
func locks(x api.Tx, coins []api.Coin, height, time int) bool {
	for i, in := range x.Ins {
		if x.Version < 2 || i >= len(coins) || in.Seq>>31 == 1 {
			continue
		}
		ok := atMost(coins[i].Height, 1, in.Seq%65536, height)
		if in.Seq>>22%2 == 1 {
			ok = atMost(coins[i].Time, 512, in.Seq%65536, time)
		}
		if !ok {
			return false
		}
	}
	return true
}

// Promise 10.1, the document's example, and what else the zero transaction is.
func TestZero(t *testing.T) {
	for _, now := range []int{0, 1, 5, edge} {
		finalIs(t, api.Tx{}, now, 0, true)
		finalIs(t, api.Tx{}, 0, now, true)
		locksAre(t, api.Tx{}, nil, now, 0, true)
		locksAre(t, api.Tx{}, []api.Coin{{Height: 9, Time: 9}}, 0, now, true)
		locksAre(t, api.Tx{Version: 2}, []api.Coin{{Height: 9, Time: 9}}, 0, now, true)
	}
	if !lock.Mature(api.Coin{}, 0) || !lock.Mature(api.Coin{}, edge) {
		t.Error("the zero coin is not mature")
	}
}

// Promise 10.1: a Lock of 0 holds nothing up, whatever the Seqs are, and at height 0 and time 0.
func TestNoLock(t *testing.T) {
	for _, seq := range []uint32{0, 1, byTime, off, never - 1, never} {
		for _, now := range []int{0, 1, line, edge} {
			finalIs(t, of(0, seq), now, 0, true)
			finalIs(t, of(0, never, seq, 0), 0, now, true)
		}
	}
	finalIs(t, of(1, 0), 0, edge, false)
	finalIs(t, of(1, 0), 1, edge, false)
	finalIs(t, of(1, 0), 2, 0, true)
}

// Promise 10.1: a Lock below 500,000,000 is a height, and must be below it; the time is nothing to it.
func TestFinalByHeight(t *testing.T) {
	for _, at := range []uint32{1, 2, 5, 255, 256, 65535, 65536, 1 << 28, line - 2, line - 1} {
		for _, time := range []int{0, int(at), int(at) + 1, line, 1 << 32, edge} {
			for _, height := range []int{0, int(at) - 1, int(at)} {
				finalIs(t, of(at, 0), height, time, false)
			}
			for _, height := range []int{int(at) + 1, int(at) + 2, line + 1, 1 << 31, 1 << 32, 1<<32 + 1, 1 << 39, edge} {
				finalIs(t, of(at, 0), height, time, true)
			}
		}
	}
}

// Promise 10.1: a Lock from 500,000,000 on is a time, and must be below it; the height is nothing to it.
func TestFinalByTime(t *testing.T) {
	for _, at := range []uint32{line, line + 1, 1<<31 - 1, 1 << 31, 1<<31 + 1, never - 1, never} {
		for _, height := range []int{0, int(at), int(at) + 1, line, 1 << 33, edge} {
			for _, time := range []int{0, line - 1, int(at) - 1, int(at)} {
				finalIs(t, of(at, 0), height, time, false)
			}
			for _, time := range []int{int(at) + 1, int(at) + 2, 1 << 32, 1<<32 + 1, 1 << 39, edge} {
				finalIs(t, of(at, 0), height, time, true)
			}
		}
	}
}

// Promise 10.1: with a Lock to come, each Seq must be 2^32 - 1, in each place, and nothing less will do.
func TestFinalBySeqs(t *testing.T) {
	others := []uint32{0, 1, 5, byTime, off, never - 1}
	for bit := range 32 {
		others = append(others, never^1<<bit)
	}
	for _, at := range []uint32{5, line - 1, line, never} {
		finalIs(t, of(at), 0, 0, true)
		for _, n := range []int{1, 2, 3, 50, 51} {
			all := slices.Repeat([]uint32{never}, n)
			finalIs(t, of(at, all...), 0, 0, true)
			for i := range n {
				for _, seq := range others {
					seqs := slices.Clone(all)
					seqs[i] = seq
					finalIs(t, of(at, seqs...), 0, 0, false)
					finalIs(t, of(at, seqs...), line, 1<<32, true)
				}
			}
			finalIs(t, of(at, make([]uint32, n)...), 0, 0, false)
		}
	}
}

// Promise 10.1: nothing else of a transaction counts for Final.
func TestFinalOfOthers(t *testing.T) {
	for _, version := range []uint32{0, 1, 2, 3, never} {
		for _, outs := range [][]api.Out{nil, {}, {{Value: never}}, make([]api.Out, 51)} {
			x := of(5, never, 0)
			x.Version, x.Outs = version, outs
			finalIs(t, x, 5, line, false)
			finalIs(t, x, 6, 0, true)
			x.Ins[1] = api.In{Seq: never}
			finalIs(t, x, 5, 0, true)
			x.Ins[1] = api.In{Prev: api.ID{1}, Vout: never, Script: make([]byte, 501), Witness: make([][]byte, 11)}
			finalIs(t, x, 5, 0, false)
		}
	}
}

// Promises 10.1 and 10.2: Final is the chapter's words, for all pairs of a Lock, a height and a time, with Seqs of three kinds.
func TestFinalOfEdges(t *testing.T) {
	for _, at := range []uint32{0, 1, 2, 99, 65535, line - 1, line, line + 1, 1 << 31, never - 1, never} {
		for _, height := range moments() {
			for _, time := range moments() {
				for _, x := range []api.Tx{of(at), of(at, never, never), of(at, never, never-1), of(at, 0)} {
					finalIs(t, x, height, time, final(x, height, time))
				}
			}
		}
	}
}

// moments are heights and times, the last ones of which the promises are not about; there the words hold all the same, and no sum wraps round.
func moments() []int {
	return []int{
		0, 1, 2, 98, 99, 100, 101, 1000, 65534, 65535, 65536, 99 + 512, 512 * 65535, 512*65535 + 99,
		line - 1, line, line + 1, 1<<31 - 1, 1 << 31, 1<<32 - 2, 1<<32 - 1, 1 << 32, 1<<32 + 1,
		edge - 512*65535, edge - 65535, edge - 10, edge - 1, edge,
		edge + 1, -1, -10, -65535, math.MaxInt - 512*65535, math.MaxInt - 65535, math.MaxInt - 10, math.MaxInt - 1, math.MaxInt,
		math.MinInt, math.MinInt + 1, math.MinInt + 10, math.MinInt + 65535,
	}
}

// Promise 10.1: Versions 0 and 1 lock nothing, and all others do.
func TestVersions(t *testing.T) {
	coins := []api.Coin{{Height: 100, Time: 5000}}
	for _, seq := range []uint32{5, 65535, byTime, byTime | 5} {
		for _, version := range []uint32{0, 1} {
			x := of(0, seq)
			x.Version = version
			locksAre(t, x, coins, 0, 0, true)
		}
		for _, version := range []uint32{2, 3, 4, 255, 256, 257, 1 << 16, 1<<16 + 1, math.MaxInt32, 1 << 31, 1<<31 + 1, never - 1, never} {
			x := of(0, seq)
			x.Version = version
			locksAre(t, x, coins, 99, 4999, false)
			locksAre(t, x, coins, 100+65535, 5000+5*512, true)
		}
	}
}

// numbers are those in the 16 least significant bits of a Seq.
func numbers() []uint32 {
	l := []uint32{0, 3, 5, 144, 1000, 32767, 65534, 65535}
	for bit := range 16 {
		l = append(l, 1<<bit)
	}
	return l
}

// Promise 10.1: without bit 22 the number is added to the Height of the coin; no time counts.
func TestLocksByHeight(t *testing.T) {
	for _, n := range numbers() {
		for _, from := range []int{0, 1, 100, 65535, line, 1<<31 - 2, 1<<32 - 2, 1 << 32, edge - 65535} {
			first := from + int(n)
			for _, c := range []api.Coin{{Height: from}, {Height: from, Time: edge}, {Height: from, Time: 3, Value: 9, Base: true}} {
				for _, time := range []int{0, 3, edge} {
					lockedIs(t, n, c, first, time, true)
					lockedIs(t, n, c, first+1, time, true)
					lockedIs(t, n, c, max(first, edge), time, true)
					lockedIs(t, n, c, first-1, time, false)
					lockedIs(t, n, c, min(first-1, 0), time, false)
				}
			}
		}
	}
}

// Promise 10.1: with bit 22 the number counts steps of 512 from the Time of the coin on; no height counts.
func TestLocksByTime(t *testing.T) {
	for _, n := range numbers() {
		for _, from := range []int{0, 1, 5000, line, 1<<31 - 2, 1<<32 - 2, 1 << 32, edge - 512*65535} {
			first := from + 512*int(n)
			for _, c := range []api.Coin{{Time: from}, {Time: from, Height: edge}, {Time: from, Height: 3, Value: 9, Base: true}} {
				for _, height := range []int{0, 3, edge} {
					lockedIs(t, byTime|n, c, height, first, true)
					lockedIs(t, byTime|n, c, height, first+1, true)
					lockedIs(t, byTime|n, c, height, max(first, edge), true)
					lockedIs(t, byTime|n, c, height, first-1, false)
					lockedIs(t, byTime|n, c, height, min(first-1, 0), false)
				}
			}
		}
	}
}

// Promise 10.1: bit 31 frees an In, whatever else is in its Seq.
func TestFreeSeqs(t *testing.T) {
	c := api.Coin{Height: edge, Time: edge, Base: true}
	for _, seq := range []uint32{0, 5, 65535, 1 << 16, byTime, byTime | 5, byTime | 65535, 1 << 30, math.MaxInt32, math.MaxInt32 - 1} {
		lockedIs(t, off|seq, c, 0, 0, true)
		lockedIs(t, seq, c, 0, 0, false)
	}
}

// Promise 10.1: the bits 16 to 21 and 23 to 30 mean nothing, one by one and all together, beside either meaning of bit 22.
func TestBitsWithoutAMeaning(t *testing.T) {
	without := []uint32{0, 0x7fbf0000}
	for bit := 16; bit <= 30; bit++ {
		if bit != 22 {
			without = append(without, 1<<bit)
		}
	}
	c := api.Coin{Height: 100, Time: 5000}
	for _, bits := range without {
		for _, n := range []uint32{0, 5, 65535} {
			lockedIs(t, bits|n, c, 100+int(n), 0, true)
			lockedIs(t, bits|n, c, 99+int(n), edge, false)
			lockedIs(t, bits|byTime|n, c, 0, 5000+512*int(n), true)
			lockedIs(t, bits|byTime|n, c, edge, 4999+512*int(n), false)
		}
	}
}

// Promise 10.1: one In that is locked holds all up, in each place, if it has a coin; those without one lock nothing.
func TestPlaces(t *testing.T) {
	for _, n := range []int{1, 2, 3, 50, 51} {
		coins := slices.Repeat([]api.Coin{{Height: 100, Time: 5000}}, n)
		for i := range n {
			for _, seq := range []uint32{5, byTime | 5} {
				seqs := slices.Repeat([]uint32{never}, n)
				seqs[i] = seq
				x := of(0, seqs...)
				for k := range n + 1 {
					locksAre(t, x, coins[:k:k], 104, 5000+512*5-1, k <= i)
				}
				locksAre(t, x, append(slices.Clone(coins), coins...), 104, 5000+512*5-1, false)
				locksAre(t, x, coins, 105, 5000+512*5, true)
			}
		}
	}
}

// Promise 10.1: each In is held against the coin with its index, and each by its own Seq.
func TestEachHasItsOwnCoin(t *testing.T) {
	x := of(0, 5, byTime|2, 1, off)
	coins := []api.Coin{{Height: 10, Time: edge}, {Height: edge, Time: 1000}, {Height: 14, Time: edge}, {Height: edge, Time: edge}}
	locksAre(t, x, coins, 15, 2024, true)
	locksAre(t, x, coins, 14, 2024, false)
	locksAre(t, x, coins, 15, 2023, false)
	for i := range coins {
		for k := range i {
			mixed := slices.Clone(coins)
			mixed[i], mixed[k] = mixed[k], mixed[i]
			locksAre(t, x, mixed, 15, 2024, false)
		}
	}
	more := append(slices.Clone(coins), api.Coin{Height: edge, Time: edge})
	locksAre(t, x, more, 15, 2024, true)
}

// Promise 10.1: nothing else of a transaction counts for Locks, not even its Lock.
func TestLocksOfOthers(t *testing.T) {
	coins := []api.Coin{{Height: 100, Time: 5000}}
	for _, at := range []uint32{0, 105, line, never} {
		for _, outs := range [][]api.Out{nil, {}, {{Value: never}}, make([]api.Out, 51)} {
			x := of(at, 5)
			x.Outs = outs
			locksAre(t, x, coins, 105, 0, true)
			locksAre(t, x, coins, 104, edge, false)
			x.Ins[0] = api.In{Seq: 5, Vout: never, Script: make([]byte, 501), Witness: make([][]byte, 11)}
			locksAre(t, x, coins, 105, 0, true)
			locksAre(t, x, coins, 104, edge, false)
		}
	}
}

// Promises 10.1 and 10.2: Locks is the chapter's words, for all pairs of what a coin has, a Seq and a moment.
func TestLocksOfEdges(t *testing.T) {
	seqs := []uint32{0, 1, 2, 10, 65535, 65536, 1 << 21, byTime, byTime | 1, byTime | 65535, byTime | 1<<16, 1 << 23, 1<<30 | 1, math.MaxInt32, off, off | 5, never}
	for _, seq := range seqs {
		x := of(0, seq)
		for _, from := range moments() {
			for _, now := range moments() {
				byHeight, byTime := api.Coin{Height: from}, api.Coin{Time: from}
				lockedIs(t, seq, byHeight, now, 0, locks(x, []api.Coin{byHeight}, now, 0))
				lockedIs(t, seq, byTime, 0, now, locks(x, []api.Coin{byTime}, 0, now))
			}
		}
	}
}

// Promises 10.1 and 10.2: the chapter's words hold for transactions and coins of all kinds.
func TestManyTransactions(t *testing.T) {
	steps := rand.New(rand.NewSource(10))
	among := func(n int) int { return n - 2 + steps.Intn(5) }
	yes := [2]int{}
	for range 20000 {
		height, time := 1000+steps.Intn(3), 90000+steps.Intn(3)
		var seqs []uint32
		for range steps.Intn(5) {
			seqs = append(seqs, []uint32{never, 0, 7, 65535, off}[steps.Intn(5)]|uint32(steps.Intn(2))<<22|uint32(steps.Intn(2))<<18)
		}
		x := of([]uint32{0, uint32(among(1000)), line, 90000}[steps.Intn(4)], seqs...)
		x.Version = uint32(steps.Intn(4))
		var coins []api.Coin
		for range steps.Intn(6) {
			n := []int{0, 7}[steps.Intn(2)]
			coins = append(coins, api.Coin{Height: among(1000 - n), Time: among(90000 - 512*n), Base: steps.Intn(2) == 0})
		}
		finalIs(t, x, height, time, final(x, height, time))
		locksAre(t, x, coins, height, time, locks(x, coins, height, time))
		if final(x, height, time) {
			yes[0]++
		}
		if locks(x, coins, height, time) {
			yes[1]++
		}
	}
	for _, n := range yes {
		if n < 2000 || n > 18000 {
			t.Errorf("%d of 20000 are open", n)
		}
	}
}

// Promise 10.1: a Base coin waits for ten heights, and no other coin waits. Nothing else of a coin counts.
func TestMature(t *testing.T) {
	for _, from := range []int{0, 1, 5, 100, line, 1<<31 - 5, 1<<32 - 5, 1 << 32, edge - 11} {
		for _, c := range []api.Coin{{Height: from}, {Height: from, Time: edge, Value: never}} {
			for _, by := range []int{-1, 0, 1, 8, 9, 10, 11} {
				for _, base := range []bool{false, true} {
					c.Base = base
					if got, want := lock.Mature(c, from+by), !base || by >= 10; got != want {
						t.Errorf("%v, %d: %t", c, from+by, got)
					}
				}
			}
			if c.Base = true; lock.Mature(c, 0) || !lock.Mature(c, edge) {
				t.Errorf("%v: not as it should be far away", c)
			}
		}
	}
}

// Promises 10.1 and 10.2: Mature is the chapter's words, for all pairs.
func TestMatureOfEdges(t *testing.T) {
	for _, from := range moments() {
		for _, now := range moments() {
			if got := lock.Mature(api.Coin{Height: from, Base: true}, now); got != atMost(from, 10, 1, now) {
				t.Errorf("Base of %d, %d: %t", from, now, got)
			}
			if !lock.Mature(api.Coin{Height: from}, now) {
				t.Errorf("%d, %d: not mature", from, now)
			}
		}
	}
}

// Promise 10.2 and Rule 1: nil and empty make no difference.
func TestNilAndEmpty(t *testing.T) {
	for _, ins := range [][]api.In{nil, {}} {
		for _, coins := range [][]api.Coin{nil, {}} {
			x := api.Tx{Version: 2, Lock: never, Ins: ins}
			finalIs(t, x, 0, 0, true)
			locksAre(t, x, coins, 0, 0, true)
			locksAre(t, of(0, 65535, byTime), coins, 0, 0, true)
		}
	}
}

// Promise 10.2 and Rules 3 and 6: the results are the same each time, what lies behind the slices counts for nothing, and all of it stays.
func TestArgumentsStay(t *testing.T) {
	x := of(200, never, never, 65535)
	coins := []api.Coin{{}, {Height: 100, Time: 5000}, {Height: edge, Time: edge}}
	x.Ins, coins = x.Ins[:2], coins[:2]
	before, stood := slices.Clone(x.Ins[:3]), slices.Clone(coins[:3])
	for range 3 {
		finalIs(t, x, 100, 100, true)
		locksAre(t, x, coins, 100, 5000, true)
		x.Ins[1].Seq = 5
		finalIs(t, x, 100, 100, false)
		finalIs(t, x, 201, 100, true)
		locksAre(t, x, coins, 104, 5000, false)
		locksAre(t, x, coins, 105, 5000, true)
		locksAre(t, x, coins[:1], 0, 0, true)
		x.Ins[1].Seq = never
	}
	if !reflect.DeepEqual(x.Ins[:3], before) || !slices.Equal(coins[:3], stood) {
		t.Error("an argument was changed")
	}
}

// Promise 10.3, also for heights and times of which nothing else is promised.
func TestNoCallPanics(t *testing.T) {
	defer func() {
		if fault := recover(); fault != nil {
			t.Errorf("panic: %v", fault)
		}
	}()
	list := []api.Tx{{}, {Version: 2}, of(0, 0), of(5, 0, 65535), of(line, byTime|65535), of(never, never, 0, 1), {Version: 3, Lock: never, Ins: make([]api.In, 1<<16)}}
	lists := [][]api.Coin{nil, {}, {{}}, make([]api.Coin, 1<<16)}
	for _, from := range moments() {
		lists = append(lists, []api.Coin{{Value: math.MaxUint64, Height: from, Time: from, Base: true}, {Height: from, Time: -from}})
	}
	for _, now := range moments() {
		for _, x := range list {
			lock.Final(x, now, now)
			lock.Final(x, now, -now)
			for _, coins := range lists {
				lock.Locks(x, coins, now, now)
				lock.Locks(x, coins, -now, now)
				for _, c := range coins[:min(len(coins), 2)] {
					lock.Mature(c, now)
				}
			}
		}
	}
}
