package rate_test

import (
	"math"
	"math/big"
	"slices"
	"testing"

	"lighterage/api"
	"lighterage/rate"
)

const (
	most    = math.MaxUint64
	limit   = 2100000000000000 // the cap of chapter 5
	clamped = 1 << 30          // the greatest size of Need
)

// fees are numbers around zero, 1,000 and its multiples, the cap, and the widths of integers, and those of which a thousandth of a multiple just fits into 64 bits, or just does not.
func fees() []uint64 {
	return []uint64{
		0, 1, 2, 3, 5, 7,
		332, 333, 334, 499, 500, 501,
		998, 999, 1000, 1001, 1999, 2000, 2001,
		clamped - 1, clamped, clamped + 1,
		math.MaxUint32 - 1, math.MaxUint32, math.MaxUint32 + 1,
		limit - 1, limit, limit + 1,
		most/1000 - 1, most / 1000, most/1000 + 1,
		most/clamped*1000 - 1, most / clamped * 1000, most/clamped*1000 + 1000,
		math.MaxInt64 - 1, math.MaxInt64, math.MaxInt64 + 1,
		most - 1000, most - 616, most - 615, most - 614, most - 1, most,
	}
}

// sizes are numbers of both signs around zero, 1,000 and its multiples, the bounds of Need, and the widths of integers.
func sizes() []int {
	return []int{
		math.MinInt, math.MinInt + 1, -math.MaxInt32, -clamped, -1000, -2, -1,
		0, 1, 2, 3, 7,
		62, 333, 499, 500, 501,
		998, 999, 1000, 1001, 1999, 2000, 2001,
		100000, 1000000, 4000000,
		clamped - 1, clamped, clamped + 1,
		math.MaxInt32, math.MaxInt32 + 1, math.MaxUint32, math.MaxUint32 + 1, 1 << 40,
		1<<62 - 1, 1 << 62, 1<<62 + 1,
		math.MaxInt - 1, math.MaxInt,
	}
}

// rates are all pairs of the fees and the sizes.
func rates() []api.Rate {
	var l []api.Rate
	for _, fee := range fees() {
		for _, size := range sizes() {
			l = append(l, api.Rate{Fee: fee, Size: size})
		}
	}
	return l
}

func whole(v uint64) *big.Int {
	return new(big.Int).SetUint64(v)
}

// weighed is the Size of a rate as the document lets it count.
func weighed(r api.Rate) *big.Int {
	if r.Size < 1 {
		return big.NewInt(1)
	}
	return big.NewInt(int64(r.Size))
}

func quotient(r api.Rate) *big.Rat {
	return new(big.Rat).SetFrac(whole(r.Fee), weighed(r))
}

// up is a * b / c by numbers without an end, rounded up, and cut off at 2^64 - 1.
func up(a, b, c *big.Int) uint64 {
	product := new(big.Int).Mul(a, b)
	result, rest := new(big.Int).QuoRem(product, c, new(big.Int))
	if rest.Sign() > 0 {
		result.Add(result, big.NewInt(1))
	}
	if !result.IsUint64() {
		return most
	}
	return result.Uint64()
}

// neededFor is Need by numbers without an end.
func neededFor(per uint64, size int) uint64 {
	if size < 0 {
		size = 0
	}
	if size > clamped {
		size = clamped
	}
	return up(whole(per), big.NewInt(int64(size)), big.NewInt(1000))
}

// Promise 7.1, each pair in both orders.
func TestCompare(t *testing.T) {
	for _, c := range []struct {
		a, b api.Rate
		want int
	}{
		{api.Rate{}, api.Rate{}, 0},
		{api.Rate{Size: 5}, api.Rate{Size: 900}, 0},
		{api.Rate{Fee: 5, Size: 5}, api.Rate{Fee: 5, Size: 5}, 0},
		{api.Rate{Fee: 5, Size: 5}, api.Rate{Fee: 6, Size: 5}, -1},
		{api.Rate{Fee: 5, Size: 5}, api.Rate{Fee: 5, Size: 6}, 1},
		{api.Rate{Fee: 2, Size: 6}, api.Rate{Fee: 1, Size: 3}, 0},
		{api.Rate{Fee: 10, Size: 1000}, api.Rate{Fee: 1, Size: 99}, -1},
		{api.Rate{Fee: 10, Size: 1000}, api.Rate{Fee: 1, Size: 101}, 1},
		{api.Rate{Fee: 3000, Size: 200}, api.Rate{Fee: 1501, Size: 100}, -1},
		{api.Rate{Size: 1}, api.Rate{Fee: 1, Size: math.MaxInt}, -1},
		{api.Rate{Fee: most, Size: math.MaxInt}, api.Rate{Fee: most, Size: math.MaxInt}, 0},
		{api.Rate{Fee: most, Size: 1}, api.Rate{Fee: 1, Size: math.MaxInt}, 1},
	} {
		comparedAre(t, c.a, c.b, c.want)
	}
}

// Promise 7.1: a Size below 1 counts as 1, and only such a one.
func TestCompareOfSizesBelowOne(t *testing.T) {
	for _, size := range []int{0, -1, -2, -1000, math.MinInt32, math.MinInt + 1, math.MinInt} {
		comparedAre(t, api.Rate{Fee: 5, Size: size}, api.Rate{Fee: 5, Size: 1}, 0)
		comparedAre(t, api.Rate{Fee: 5, Size: size}, api.Rate{Fee: 5, Size: 0}, 0)
		comparedAre(t, api.Rate{Fee: 5, Size: size}, api.Rate{Fee: 5, Size: 2}, 1)
		comparedAre(t, api.Rate{Fee: 5, Size: size}, api.Rate{Fee: 10, Size: 2}, 0)
		comparedAre(t, api.Rate{Fee: 5, Size: size}, api.Rate{Fee: 11, Size: 2}, -1)
		comparedAre(t, api.Rate{Fee: 5, Size: size}, api.Rate{Fee: 4, Size: 1}, 1)
		comparedAre(t, api.Rate{Size: size}, api.Rate{Size: 7}, 0)
	}
}

// Promise 7.1: it is exact, where the quotients are alike in 53 bits, the products do not fit into 64 bits, or only the upper half or only the lower half of them differs.
func TestCompareIsExact(t *testing.T) {
	for _, c := range []struct {
		a, b api.Rate
		want int
	}{
		{api.Rate{Fee: most, Size: math.MaxInt}, api.Rate{Fee: most - 1, Size: math.MaxInt}, 1},
		{api.Rate{Fee: most, Size: math.MaxInt}, api.Rate{Fee: most, Size: math.MaxInt - 1}, -1},
		{api.Rate{Fee: most - 1, Size: math.MaxInt}, api.Rate{Fee: most, Size: math.MaxInt}, -1},
		{api.Rate{Fee: limit, Size: 999999}, api.Rate{Fee: limit - 1, Size: 999999}, 1},
		{api.Rate{Fee: limit, Size: 1 << 40}, api.Rate{Fee: limit - 1, Size: 1 << 40}, 1},
		{api.Rate{Fee: 1 << 32, Size: 1}, api.Rate{Fee: 1, Size: 1 << 32}, 1},
		{api.Rate{Fee: 1 << 62, Size: 4}, api.Rate{Fee: 1, Size: 4}, 1},
		{api.Rate{Fee: 1 << 62, Size: 5}, api.Rate{Fee: 1 << 60, Size: 1}, -1},
		{api.Rate{Fee: 1<<62 + 1, Size: 1 << 62}, api.Rate{Fee: 1 << 62, Size: 1<<62 - 1}, -1},
		{api.Rate{Fee: 1 << 62, Size: 1 << 61}, api.Rate{Fee: 2, Size: 1}, 0},
		{api.Rate{Fee: 1<<62 + 1, Size: 1 << 61}, api.Rate{Fee: 2, Size: 1}, 1},
		{api.Rate{Fee: 1<<62 - 1, Size: 1 << 61}, api.Rate{Fee: 2, Size: 1}, -1},
		{api.Rate{Fee: most, Size: 1 << 62}, api.Rate{Fee: 4, Size: 1}, -1},
	} {
		comparedAre(t, c.a, c.b, c.want)
	}
}

func comparedAre(t *testing.T, a, b api.Rate, want int) {
	t.Helper()
	if got := rate.Compare(a, b); got != want {
		t.Errorf("%v and %v: %d, not %d", a, b, got, want)
	}
	if got := rate.Compare(b, a); got != -want {
		t.Errorf("%v and %v: %d, not %d", b, a, got, -want)
	}
}

// Promises 7.1 and 7.2: all pairs of the rates.
func TestCompareOfEdges(t *testing.T) {
	all := rates()
	quotients := make([]*big.Rat, len(all))
	for i, r := range all {
		quotients[i] = quotient(r)
	}
	for i, a := range all {
		for j, b := range all[:i+1] {
			comparedAre(t, a, b, quotients[i].Cmp(quotients[j]))
		}
	}
}

// Promise 7.2: rates that are sorted by Compare stand in the order of their quotients.
func TestCompareSorts(t *testing.T) {
	l := rates()
	slices.SortFunc(l, rate.Compare)
	for i := 1; i < len(l); i++ {
		if quotient(l[i-1]).Cmp(quotient(l[i])) > 0 {
			t.Errorf("%v stands before %v", l[i-1], l[i])
		}
	}
}

// Promise 7.1: what is rounded up, and the bounds of the size.
func TestNeed(t *testing.T) {
	for _, c := range []struct {
		per  uint64
		size int
		want uint64
	}{
		{1000, 5, 5}, // the document's example
		{1000, 0, 0},
		{1000, 1, 1},
		{0, 0, 0},
		{0, 1, 0},
		{0, math.MaxInt, 0},
		{1, 0, 0},
		{1, 1, 1},
		{1, 999, 1},
		{1, 1000, 1},
		{1, 1001, 2},
		{1, 1999, 2},
		{1, 2000, 2},
		{1, 2001, 3},
		{999, 1, 1},
		{1001, 1, 2},
		{1001, 999, 1000},
		{1001, 1000, 1001},
		{1500, 62, 93},
		{1500, 61, 92},
		{3500, 250, 875},
		{1, clamped, 1073742},
		{1000, clamped - 1, clamped - 1},
		{1000, clamped, clamped},
		{1000, clamped + 1, clamped},
		{1000, 1 << 31, clamped},
		{1000, 1 << 32, clamped},
		{1000, 1<<32 + 5, clamped},
		{1000, math.MaxInt, clamped},
		{1000, -1, 0},
		{1000, -5, 0},
		{1000, -clamped, 0},
		{1000, math.MinInt + 5, 0},
		{1000, math.MinInt, 0},
		{most, 0, 0},
		{most, -1, 0},
		{limit, 1000000, 2100000000000000000},
		{limit, clamped, most},
	} {
		if got := rate.Need(c.per, c.size); got != c.want {
			t.Errorf("%d, %d: %d, not %d", c.per, c.size, got, c.want)
		}
	}
}

// Promise 7.1: results around 2^64 - 1, of which some are above it only by what is rounded up, and some would be small if they wrapped round.
func TestNeedOfMuch(t *testing.T) {
	for _, c := range []struct {
		per  uint64
		size int
		want uint64
	}{
		{most, 1, 18446744073709552},
		{most, 999, 18428297329635842064},
		{most, 1000, most},
		{most, 1001, most},
		{most, 2000, most},
		{most, clamped, most},
		{most, math.MaxInt, most},
		{most - 1, 1000, most - 1},
		{most - 1, 1001, most},
		{1 << 63, 1999, 18437520701672696841},
		{1 << 63, 2000, most},
		{1 << 63, 2001, most},
		{18428315757951600000, 1001, most - 15},
		{18428315757951600013, 1001, most - 1},
		{18428315757951600014, 1001, most}, // rounded up to it
		{18428315757951600015, 1001, most},
		{18428315757951600016, 1001, most},
		{17179869183999, clamped, 18446744073708477875},
		{17179869184000, clamped, most},
		{17179869184001, clamped, most},
		{1 << 44, clamped, most},
		{1000 << 34, 1 << 30, most},
	} {
		if got := rate.Need(c.per, c.size); got != c.want {
			t.Errorf("%d, %d: %d, not %d", c.per, c.size, got, c.want)
		}
	}
}

// Promises 7.1 and 7.2: all pairs of the edges, and all small ones.
func TestNeedOfEdges(t *testing.T) {
	for _, per := range fees() {
		for _, size := range sizes() {
			needIs(t, per, size)
		}
	}
	for per := range uint64(1100) {
		for size := -1; size < 60; size++ {
			needIs(t, per, size)
		}
	}
}

func needIs(t *testing.T, per uint64, size int) {
	t.Helper()
	if got, want := rate.Need(per, size), neededFor(per, size); got != want {
		t.Errorf("%d, %d: %d, not %d", per, size, got, want)
	}
}

// Promise 7.1: what is rounded up, and Sizes below 1.
func TestPer(t *testing.T) {
	for _, c := range []struct {
		r    api.Rate
		want uint64
	}{
		{api.Rate{}, 0},
		{api.Rate{Size: 9}, 0},
		{api.Rate{Size: math.MaxInt}, 0},
		{api.Rate{Fee: 1, Size: 1}, 1000},
		{api.Rate{Fee: 5, Size: 5}, 1000},
		{api.Rate{Fee: 1, Size: 2}, 500},
		{api.Rate{Fee: 1, Size: 3}, 334},
		{api.Rate{Fee: 2, Size: 3}, 667},
		{api.Rate{Fee: 1, Size: 999}, 2},
		{api.Rate{Fee: 1, Size: 1000}, 1},
		{api.Rate{Fee: 1, Size: 1001}, 1},
		{api.Rate{Fee: 1, Size: math.MaxInt}, 1},
		{api.Rate{Fee: 93, Size: 62}, 1500},
		{api.Rate{Fee: 94, Size: 62}, 1517},
		{api.Rate{Fee: 7, Size: 0}, 7000},
		{api.Rate{Fee: 7, Size: -1}, 7000},
		{api.Rate{Fee: 7, Size: -7}, 7000},
		{api.Rate{Fee: 7, Size: math.MinInt}, 7000},
		{api.Rate{Fee: limit, Size: 4000000}, 525000000000},
		{api.Rate{Fee: limit, Size: 100}, 21000000000000000},
	} {
		if got := rate.Per(c.r); got != c.want {
			t.Errorf("%v: %d, not %d", c.r, got, c.want)
		}
	}
}

// Promise 7.1: results around 2^64 - 1, and Sizes above 2^30, which stay as they are.
func TestPerOfMuch(t *testing.T) {
	for _, c := range []struct {
		r    api.Rate
		want uint64
	}{
		{api.Rate{Fee: most / 1000, Size: 1}, 18446744073709551000},
		{api.Rate{Fee: most/1000 + 1, Size: 1}, most},
		{api.Rate{Fee: most/1000 + 1, Size: -1}, most},
		{api.Rate{Fee: most, Size: 0}, most},
		{api.Rate{Fee: most, Size: 1}, most},
		{api.Rate{Fee: most, Size: 999}, most},
		{api.Rate{Fee: most, Size: 1000}, most},
		{api.Rate{Fee: most - 1, Size: 1000}, most - 1},
		{api.Rate{Fee: most, Size: 1001}, 18428315757951600015},
		{api.Rate{Fee: 18428297329635842061, Size: 999}, most - 2},
		{api.Rate{Fee: 18428297329635842062, Size: 999}, most - 1},
		{api.Rate{Fee: 18428297329635842063, Size: 999}, most},
		{api.Rate{Fee: 18428297329635842064, Size: 999}, most},
		{api.Rate{Fee: 1 << 63, Size: 500}, most},
		{api.Rate{Fee: 1<<63 - 1, Size: 500}, most - 1},
		{api.Rate{Fee: clamped, Size: clamped}, 1000},
		{api.Rate{Fee: clamped, Size: clamped + 1}, 1000},
		{api.Rate{Fee: clamped, Size: 2 * clamped}, 500},
		{api.Rate{Fee: clamped, Size: 1 << 40}, 1},
		{api.Rate{Fee: 1 << 40, Size: 1 << 40}, 1000},
		{api.Rate{Fee: 1 << 62, Size: 1 << 62}, 1000},
		{api.Rate{Fee: most, Size: math.MaxInt}, 2001},
		{api.Rate{Fee: most - 1, Size: math.MaxInt}, 2000},
	} {
		want := up(whole(c.r.Fee), big.NewInt(1000), weighed(c.r))
		if got := rate.Per(c.r); got != c.want || got != want {
			t.Errorf("%v: %d, not %d, which should be %d", c.r, got, c.want, want)
		}
	}
}

// Promises 7.1 and 7.2: all pairs of the edges, and all small ones.
func TestPerOfEdges(t *testing.T) {
	for _, r := range rates() {
		perIs(t, r)
	}
	for fee := range uint64(60) {
		for size := -1; size < 1100; size++ {
			perIs(t, api.Rate{Fee: fee, Size: size})
		}
	}
}

func perIs(t *testing.T, r api.Rate) {
	t.Helper()
	want := up(whole(r.Fee), big.NewInt(1000), weighed(r))
	if got := rate.Per(r); got != want {
		t.Errorf("%v: %d, not %d", r, got, want)
	}
}

// Promise 7.2: who pays by the Per of a rate for its Size, pays its Fee at least.
func TestPerIsEnough(t *testing.T) {
	for _, r := range rates() {
		per := rate.Per(r)
		if r.Size < 1 || r.Size > clamped || per == most {
			continue
		}
		if got := rate.Need(per, r.Size); got < r.Fee {
			t.Errorf("%v: %d for each 1,000 are %d", r, per, got)
		}
	}
}

// Promise 7.1: sums, of which each Size is taken as it is.
func TestAdd(t *testing.T) {
	for _, c := range []struct {
		l    []api.Rate
		want api.Rate
	}{
		{nil, api.Rate{}},
		{[]api.Rate{}, api.Rate{}},
		{[]api.Rate{{}}, api.Rate{}},
		{[]api.Rate{{}, {}, {}}, api.Rate{}},
		{[]api.Rate{{Fee: 5, Size: 6}}, api.Rate{Fee: 5, Size: 6}},
		{[]api.Rate{{Fee: 5, Size: 6}, {Fee: 70, Size: 80}}, api.Rate{Fee: 75, Size: 86}},
		{[]api.Rate{{Fee: 5, Size: 6}, {Fee: 5, Size: 6}}, api.Rate{Fee: 10, Size: 12}},
		{[]api.Rate{{Fee: 5}, {Size: 6}}, api.Rate{Fee: 5, Size: 6}},
		{[]api.Rate{{Fee: 5, Size: 0}, {Fee: 6, Size: 0}}, api.Rate{Fee: 11}},
		{[]api.Rate{{Fee: 5, Size: -7}}, api.Rate{Fee: 5, Size: -7}},
		{[]api.Rate{{Fee: 5, Size: -7}, {Fee: 6, Size: -8}}, api.Rate{Fee: 11, Size: -15}},
		{[]api.Rate{{Fee: 5, Size: -7}, {Fee: 6, Size: 10}}, api.Rate{Fee: 11, Size: 3}},
		{[]api.Rate{{Size: math.MinInt}}, api.Rate{Size: math.MinInt}},
		{[]api.Rate{{Size: 2 * clamped}, {Size: 1 << 40}}, api.Rate{Size: 1<<40 + 1<<31}},
		{[]api.Rate{{Fee: limit}, {Fee: limit}}, api.Rate{Fee: 2 * limit}},
	} {
		if got := rate.Add(c.l...); got != c.want {
			t.Errorf("%v: %v, not %v", c.l, got, c.want)
		}
	}
}

// Promise 7.1: sums that wrap round, of Fees and of Sizes in both directions.
func TestAddWrapsRound(t *testing.T) {
	for _, c := range []struct {
		l    []api.Rate
		want api.Rate
	}{
		{[]api.Rate{{Fee: most}}, api.Rate{Fee: most}},
		{[]api.Rate{{Fee: most}, {Fee: 1}}, api.Rate{}},
		{[]api.Rate{{Fee: most}, {Fee: 8}}, api.Rate{Fee: 7}},
		{[]api.Rate{{Fee: most}, {Fee: most}}, api.Rate{Fee: most - 1}},
		{[]api.Rate{{Fee: 1 << 63}, {Fee: 1 << 63}, {Fee: 9}}, api.Rate{Fee: 9}},
		{[]api.Rate{{Size: math.MaxInt}, {Size: 1}}, api.Rate{Size: math.MinInt}},
		{[]api.Rate{{Size: math.MaxInt}, {Size: math.MaxInt}}, api.Rate{Size: -2}},
		{[]api.Rate{{Size: math.MinInt}, {Size: -1}}, api.Rate{Size: math.MaxInt}},
		{[]api.Rate{{Size: math.MinInt}, {Size: math.MinInt}}, api.Rate{}},
		{[]api.Rate{{Fee: most, Size: math.MaxInt}, {Fee: 3, Size: 4}, {Fee: 5, Size: -6}}, api.Rate{Fee: 7, Size: math.MaxInt - 2}},
		{[]api.Rate{{Size: math.MaxInt}, {Size: 5}, {Size: -5}}, api.Rate{Size: math.MaxInt}},
	} {
		if got := rate.Add(c.l...); got != c.want {
			t.Errorf("%v: %v, not %v", c.l, got, c.want)
		}
	}
}

// Promises 7.1 and 7.2: long lists, whose sums are those by numbers without an end, modulo 2^64, in any order.
func TestAddOfManyRates(t *testing.T) {
	l := slices.Repeat(rates(), 30)
	fee, size := new(big.Int), new(big.Int)
	for _, r := range l {
		fee.Add(fee, whole(r.Fee))
		size.Add(size, big.NewInt(int64(r.Size)))
	}
	round := new(big.Int).Lsh(big.NewInt(1), 64)
	want := api.Rate{
		Fee:  fee.Mod(fee, round).Uint64(),
		Size: int(size.Mod(size, round).Uint64()),
	}
	if got := rate.Add(l...); got != want {
		t.Errorf("%v, not %v", got, want)
	}
	slices.Reverse(l)
	if got := rate.Add(l...); got != want {
		t.Errorf("the other way: %v, not %v", got, want)
	}
}

// Promise 7.2 and Rules 3 and 6: the results are the same each time, and the list stays, with the room behind it.
func TestArgumentsStay(t *testing.T) {
	l := []api.Rate{{Fee: 3, Size: 0}, {Fee: most, Size: -4}, {Fee: 2, Size: math.MaxInt}, {Fee: 9, Size: 9}, {Fee: 9, Size: -9}}
	before := slices.Clone(l)
	want := rate.Add(l[:3]...)
	for range 3 {
		if got := rate.Add(l[:3]...); got != want {
			t.Errorf("%v, before %v", got, want)
		}
		comparedAre(t, l[0], l[1], -1)
		needIs(t, l[0].Fee, l[0].Size)
		perIs(t, l[1])
	}
	if !slices.Equal(l, before) {
		t.Errorf("%v has become %v", before, l)
	}
}

// Promise 7.3.
func TestNoCallPanics(t *testing.T) {
	defer func() {
		if fault := recover(); fault != nil {
			t.Errorf("panic: %v", fault)
		}
	}()
	l := rates()
	for i, r := range l {
		rate.Need(r.Fee, r.Size)
		rate.Per(r)
		rate.Add(r, l[len(l)-1-i])
		rate.Compare(r, l[len(l)-1-i])
		rate.Compare(r, api.Rate{})
		rate.Compare(api.Rate{}, r)
	}
	rate.Add()
	rate.Add(nil...)
	rate.Add(l...)
	rate.Add(make([]api.Rate, 1<<20)...)
}
