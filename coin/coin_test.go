package coin_test

import (
	"bytes"
	"cmp"
	"crypto/sha256"
	"encoding/binary"
	"math"
	"math/rand"
	"reflect"
	"slices"
	"testing"

	"lighterage/api"
	"lighterage/coin"
	"lighterage/idsx"
)

func at(first byte, vout uint32) api.Point {
	return api.Point{ID: api.ID{first}, Vout: vout}
}

// worth returns a transaction with an Out for each Value.
func worth(version uint32, values ...uint64) api.Tx {
	t := api.Tx{Version: version, Ins: []api.In{{Prev: api.ID{7}, Vout: 3, Seq: math.MaxUint32}}}
	for i, v := range values {
		t.Outs = append(t.Outs, api.Out{Value: v, Script: []byte{0x6a, byte(i)}})
	}
	return t
}

// points returns the points of the first n Outs of t.
func points(t api.Tx, n int) []api.Point {
	var l []api.Point
	for i := range n {
		l = append(l, api.Point{ID: idsx.Txid(t), Vout: uint32(i)})
	}
	return l
}

// setOf returns a Set of these points; each coin has a Value of its own.
func setOf(t *testing.T, l ...api.Point) *coin.Set {
	t.Helper()
	s := coin.New()
	for i, p := range l {
		if !s.Put(p, api.Coin{Value: uint64(i) + 1}) {
			t.Fatalf("%v: not put", p)
		}
	}
	return s
}

// all returns what s holds, as Points and Get tell it.
func all(t *testing.T, s *coin.Set) map[api.Point]api.Coin {
	t.Helper()
	held := map[api.Point]api.Coin{}
	for _, p := range s.Points() {
		c, ok := s.Get(p)
		if !ok {
			t.Fatalf("%v: no coin", p)
		}
		held[p] = c
	}
	return held
}

func pointsAre(t *testing.T, name string, s *coin.Set, want ...api.Point) {
	t.Helper()
	if got := s.Points(); !slices.Equal(got, want) {
		t.Errorf("%s: %v, not %v", name, got, want)
	}
}

// coinIs holds Get against what it must return; without a coin that is the zero value.
func coinIs(t *testing.T, name string, s *coin.Set, p api.Point, want api.Coin, ok bool) {
	t.Helper()
	if got, found := s.Get(p); got != want || found != ok {
		t.Errorf("%s: %v, %v, not %v, %v", name, got, found, want, ok)
	}
}

// coins are of all kinds of values, also of such as no chain makes.
func coins() []api.Coin {
	return []api.Coin{
		{},
		{Value: 5000, Height: 3, Time: 9, Base: true},
		{Value: 5000, Height: 3, Time: 9},
		{Value: math.MaxUint64, Height: math.MaxInt, Time: math.MinInt, Base: true},
		{Height: -1, Time: -1},
		{Base: true},
	}
}

// Promise 9.1: New, and that no two Sets have anything in common.
func TestNew(t *testing.T) {
	a, b := coin.New(), coin.New()
	pointsAre(t, "new", a)
	coinIs(t, "new", a, at(0, 0), api.Coin{}, false)
	if c, ok := a.Take(at(0, 0)); ok || c != (api.Coin{}) {
		t.Errorf("taken from a new one: %v, %v", c, ok)
	}
	a.Put(at(1, 1), api.Coin{Value: 1})
	a.Make(worth(2, 5), 1, 1, false)
	pointsAre(t, "beside another one", b)
	pointsAre(t, "later", coin.New())
	if b.Unmake(worth(2, 5)) || len(a.Points()) != 2 {
		t.Error("unmade in another one")
	}
}

// Promise 9.1: Put inserts a coin as it is, and Get returns it, as often as it is asked.
func TestPutAndGet(t *testing.T) {
	for i, c := range coins() {
		s := setOf(t, at(2, 2))
		if !s.Put(at(1, 7), c) {
			t.Errorf("coin %d: not put", i)
		}
		for range 2 {
			coinIs(t, "put", s, at(1, 7), c, true)
			coinIs(t, "other", s, at(2, 2), api.Coin{Value: 1}, true)
			pointsAre(t, "put", s, at(1, 7), at(2, 2))
		}
	}
}

// Promise 9.1: where a coin is, none is put, not even the same one, and not over one of zeros.
func TestPutTwice(t *testing.T) {
	for _, c := range coins() {
		for _, other := range coins() {
			s := setOf(t, at(9, 0))
			s.Put(at(1, 0), c)
			if s.Put(at(1, 0), other) {
				t.Errorf("%v is put over %v", other, c)
			}
			coinIs(t, "put twice", s, at(1, 0), c, true)
			pointsAre(t, "put twice", s, at(1, 0), at(9, 0))
		}
	}
}

// Promise 9.1: Take returns a coin once; what is taken can be put again.
func TestTake(t *testing.T) {
	for _, c := range coins() {
		s := setOf(t, at(1, 1), at(3, 3))
		s.Put(at(2, 2), c)
		for range 2 {
			if got, ok := s.Take(at(2, 2)); !ok || got != c {
				t.Errorf("%v, %v, not %v", got, ok, c)
			}
			coinIs(t, "taken", s, at(2, 2), api.Coin{}, false)
			pointsAre(t, "taken", s, at(1, 1), at(3, 3))
			if got, ok := s.Take(at(2, 2)); ok || got != (api.Coin{}) {
				t.Errorf("taken twice: %v, %v", got, ok)
			}
			pointsAre(t, "taken twice", s, at(1, 1), at(3, 3))
			if !s.Put(at(2, 2), c) {
				t.Error("not put again")
			}
		}
	}
}

// near returns points that differ from one another by a byte or a bit.
func near() []api.Point {
	var p api.Point
	for i := range p.ID {
		p.ID[i] = byte(100 + i)
	}
	p.Vout = 0x01020304
	l := []api.Point{p}
	for i := range p.ID {
		for _, by := range []byte{1, 128} {
			q := p
			q.ID[i] ^= by
			l = append(l, q)
		}
	}
	for bit := range 32 {
		q := p
		q.Vout ^= 1 << bit
		l = append(l, q)
	}
	return l
}

// Promise 9.1: a point is its whole ID and its whole Vout.
func TestPointsThatAreNear(t *testing.T) {
	l := near()
	for i, p := range l {
		s := setOf(t, slices.Delete(slices.Clone(l), i, i+1)...)
		coinIs(t, "all but one", s, p, api.Coin{}, false)
		if _, ok := s.Take(p); ok || len(s.Points()) != len(l)-1 {
			t.Errorf("%v: taken", p)
		}
		if !s.Put(p, api.Coin{Value: 77}) || len(s.Points()) != len(l) {
			t.Errorf("%v: not put", p)
		}
	}
	s := setOf(t, l...)
	for i, p := range l {
		if c, ok := s.Take(p); !ok || c.Value != uint64(i)+1 {
			t.Errorf("%v: %v, %v", p, c, ok)
		}
	}
	pointsAre(t, "all are taken", s)
}

// Promise 9.1: Points are in ascending order by ID, from its first byte on, and then by Vout as a number.
func TestOrderOfPoints(t *testing.T) {
	want := []api.Point{
		{},
		{Vout: 1},
		{Vout: 255},
		{Vout: 256}, // with its lowest byte first this would be before 1
		{Vout: 1 << 31},
		{Vout: math.MaxUint32},
		{ID: api.ID{31: 1}},
		{ID: api.ID{31: 1}, Vout: 2},
		{ID: api.ID{31: 255}},
		{ID: api.ID{30: 1}, Vout: 9},
		{ID: api.ID{0: 1}},
		{ID: api.ID{0: 1}, Vout: 3},
		{ID: api.ID{0: 1, 31: 1}},
		{ID: api.ID{0: 127, 1: 255}, Vout: 4},
		{ID: api.ID{0: 128}},
		{ID: api.ID{0: 255}},
		{ID: api.ID{0: 255, 31: 255}, Vout: math.MaxUint32},
	}
	steps := rand.New(rand.NewSource(9))
	for range 50 {
		mixed := slices.Clone(want)
		steps.Shuffle(len(mixed), func(i, k int) { mixed[i], mixed[k] = mixed[k], mixed[i] })
		pointsAre(t, "mixed", setOf(t, mixed...), want...)
	}
	l := near()
	s := setOf(t, l...)
	slices.SortFunc(l, before)
	pointsAre(t, "near", s, l...)
}

// before compares points by the bytes of both, the Vout with its highest byte first.
func before(a, b api.Point) int {
	return cmp.Or(bytes.Compare(a.ID[:], b.ID[:]),
		bytes.Compare(binary.BigEndian.AppendUint32(nil, a.Vout), binary.BigEndian.AppendUint32(nil, b.Vout)))
}

// Promise 9.1 and Rules 3 and 6: Points are new memory each time, and come out the same each time.
func TestPointsAreNew(t *testing.T) {
	s := setOf(t, near()...)
	first, second := s.Points(), s.Points()
	if !slices.Equal(first, second) {
		t.Error("not the same twice")
	}
	wipe(first)
	if slices.Equal(first, second) {
		t.Error("two results share memory")
	}
	pointsAre(t, "after a change of a result", s, second...)
	s.Put(at(0, 0), api.Coin{})
	s.Take(second[3])
	if len(second) != len(near()) || second[0] == at(0, 0) {
		t.Error("a result changed later")
	}
}

func wipe(l []api.Point) {
	clear(l[:cap(l)])
}

// Promise 9.1: Make puts a coin for each Out at the points of the Txid, with its Value and what is passed.
func TestMake(t *testing.T) {
	for _, want := range coins() {
		s := setOf(t, at(0, 0))
		x := worth(2, 5, math.MaxUint64, 0, 5)
		if !s.Make(x, want.Height, want.Time, want.Base) {
			t.Fatal("not made")
		}
		l := points(x, 4)
		pointsAre(t, "made", s, append([]api.Point{at(0, 0)}, l...)...)
		for i, p := range l {
			coinIs(t, "made", s, p, api.Coin{Value: x.Outs[i].Value, Height: want.Height, Time: want.Time, Base: want.Base}, true)
		}
		coinIs(t, "other", s, at(0, 0), api.Coin{Value: 1}, true)
	}
}

// Promise 9.1: the ID of the points is the Txid, worked out here by SHA-256 of the library; Witnesses do not count.
func TestNamesOfPoints(t *testing.T) {
	x := api.Tx{Version: 2, Ins: []api.In{{Prev: api.ID{7}, Vout: 3, Seq: 5}}, Outs: []api.Out{{Value: 9}}}
	base := append([]byte{2, 0, 0, 0, 1, 7}, make([]byte, 31)...)
	base = append(base, 3, 0, 0, 0, 0, 5, 0, 0, 0)
	base = append(base, 1, 9, 0, 0, 0, 0, 0, 0, 0, 0)
	base = append(base, 0, 0, 0, 0)
	first := sha256.Sum256(base)
	p := api.Point{ID: sha256.Sum256(first[:])}
	s := coin.New()
	if !s.Make(x, 1, 2, false) {
		t.Fatal("not made")
	}
	pointsAre(t, "plain", s, p)
	y := x
	y.Ins = []api.In{{Prev: api.ID{7}, Vout: 3, Seq: 5, Witness: [][]byte{{1, 2}}}}
	if s.Make(y, 1, 2, false) || !s.Unmake(y) || s.Unmake(x) || !s.Make(y, 3, 4, true) {
		t.Error("Witnesses count")
	}
	coinIs(t, "with a Witness", s, p, api.Coin{Value: 9, Height: 3, Time: 4, Base: true}, true)
}

// values returns n Values that differ.
func values(n int) []uint64 {
	var l []uint64
	for i := range n {
		l = append(l, uint64(1000+i))
	}
	return l
}

// Promise 9.1 and Rule 4: Make changes nothing if a coin is there, wherever it is, and whatever it is.
func TestMakeOverAnother(t *testing.T) {
	for _, n := range []int{1, 2, 3, 50} {
		x := worth(2, values(n)...)
		for i, p := range points(x, n) {
			for _, c := range coins() {
				s := setOf(t, at(1, 1))
				s.Put(p, c)
				if s.Make(x, 4, 5, false) {
					t.Fatalf("%d Outs: made over %d", n, i)
				}
				if len(s.Points()) != 2 {
					t.Fatalf("%d Outs: changed beside %d", n, i)
				}
				coinIs(t, "there", s, p, c, true)
				coinIs(t, "other", s, at(1, 1), api.Coin{Value: 1}, true)
			}
		}
	}
}

// Promise 9.1: coins beside those of a transaction are no hindrance to Make, and Unmake leaves them.
func TestBesideATransaction(t *testing.T) {
	x := worth(2, values(3)...)
	id := idsx.Txid(x)
	other := id
	other[31] ^= 1
	beside := []api.Point{
		{ID: id, Vout: 3}, {ID: id, Vout: math.MaxUint32}, {ID: id, Vout: 1 << 16}, {ID: id, Vout: 256},
		{ID: other}, {ID: other, Vout: 1}, {ID: idsx.Wtxid(worth(1, 5))}, {Vout: 1},
	}
	s := setOf(t, beside...)
	was := all(t, s)
	if !s.Make(x, 4, 5, false) || len(s.Points()) != len(beside)+3 {
		t.Error("not made")
	}
	if !s.Unmake(x) || !reflect.DeepEqual(all(t, s), was) {
		t.Error("not as before")
	}
}

// Promise 9.1: Unmake takes what Make has made, whatever coins are there by then.
func TestUnmake(t *testing.T) {
	for _, n := range []int{1, 2, 3, 50} {
		x, y := worth(2, values(n)...), worth(3, values(n)...)
		s := coin.New()
		if s.Unmake(x) || !s.Make(x, 1, 2, true) || !s.Make(y, 1, 2, true) || !s.Unmake(x) {
			t.Errorf("%d Outs: not as it should be", n)
		}
		pointsAre(t, "one is left", s, points(y, n)...)
		if s.Unmake(x) || !s.Make(x, 3, 4, false) {
			t.Errorf("%d Outs: not gone", n)
		}
		for _, p := range points(x, n) {
			s.Take(p)
			s.Put(p, api.Coin{Value: 1, Time: 77})
		}
		if !s.Unmake(x) {
			t.Errorf("%d Outs: other coins are not taken", n)
		}
		pointsAre(t, "other coins", s, points(y, n)...)
	}
}

// Promise 9.1 and Rule 4: Unmake changes nothing if a coin is not there, wherever it would be.
func TestUnmakeWithoutOne(t *testing.T) {
	for _, n := range []int{1, 2, 3, 50} {
		x := worth(2, values(n)...)
		for i, p := range points(x, n) {
			s := setOf(t, at(1, 1))
			s.Make(x, 4, 5, true)
			s.Take(p)
			was := all(t, s)
			if s.Unmake(x) || s.Unmake(x) {
				t.Fatalf("%d Outs: unmade without %d", n, i)
			}
			if !reflect.DeepEqual(all(t, s), was) || len(was) != n {
				t.Fatalf("%d Outs: changed without %d", n, i)
			}
		}
	}
}

// Promise 9.2: whatever is done, a Set is what plain lists of points and coins are, step by step.
func TestManySteps(t *testing.T) {
	for seed := range int64(20) {
		steps := rand.New(rand.NewSource(seed))
		s, p := coin.New(), plain{}
		for range 400 {
			step(t, steps, s, &p)
			if !slices.Equal(s.Points(), p.sorted()) {
				t.Fatalf("seed %d: other points", seed)
			}
		}
		for i, q := range p.points {
			coinIs(t, "in the end", s, q, p.coins[i], true)
		}
	}
}

// step does one thing to both, and holds the results against each other.
func step(t *testing.T, steps *rand.Rand, s *coin.Set, p *plain) {
	t.Helper()
	x := worth(uint32(steps.Intn(4)), values(1+steps.Intn(3))...)
	q := points(x, 4)[steps.Intn(4)]
	c := coins()[steps.Intn(len(coins()))]
	c.Value += uint64(steps.Intn(9))
	switch steps.Intn(5) {
	case 0:
		if got, want := s.Put(q, c), p.put([]api.Point{q}, c); got != want {
			t.Fatalf("Put: %v", got)
		}
	case 1:
		want := p.get(q)
		ok := p.take([]api.Point{q})
		if got, found := s.Take(q); got != want || found != ok {
			t.Fatalf("Take: %v, %v", got, found)
		}
	case 2:
		coinIs(t, "Get", s, q, p.get(q), slices.Contains(p.points, q))
	case 3:
		var l []api.Coin
		for _, o := range x.Outs {
			l = append(l, api.Coin{Value: o.Value, Height: c.Height, Time: c.Time, Base: c.Base})
		}
		if got, want := s.Make(x, c.Height, c.Time, c.Base), p.put(points(x, len(l)), l...); got != want {
			t.Fatalf("Make: %v", got)
		}
	default:
		if got, want := s.Unmake(x), p.take(points(x, len(x.Outs))); got != want {
			t.Fatalf("Unmake: %v", got)
		}
	}
}

// plain is a list of points, and one of their coins.
type plain struct {
	points []api.Point
	coins  []api.Coin
}

func (p *plain) get(q api.Point) api.Coin {
	if i := slices.Index(p.points, q); i >= 0 {
		return p.coins[i]
	}
	return api.Coin{}
}

func (p *plain) put(l []api.Point, coins ...api.Coin) bool {
	for _, q := range l {
		if slices.Contains(p.points, q) {
			return false
		}
	}
	p.points, p.coins = append(p.points, l...), append(p.coins, coins...)
	return true
}

func (p *plain) take(l []api.Point) bool {
	for _, q := range l {
		if !slices.Contains(p.points, q) {
			return false
		}
	}
	for _, q := range l {
		i := slices.Index(p.points, q)
		p.points, p.coins = slices.Delete(p.points, i, i+1), slices.Delete(p.coins, i, i+1)
	}
	return true
}

func (p *plain) sorted() []api.Point {
	return slices.SortedFunc(slices.Values(p.points), before)
}

// Promise 9.1 and Rule 1: an empty slice in a transaction is as good as none.
func TestNilAndEmpty(t *testing.T) {
	x, y := worth(2, 5, 6), worth(2, 5, 6)
	x.Ins[0].Script, x.Ins[0].Witness, x.Outs[0].Script = nil, nil, nil
	y.Ins[0].Script, y.Ins[0].Witness, y.Outs[0].Script = []byte{}, [][]byte{}, []byte{}
	s := coin.New()
	if !s.Make(x, 1, 2, false) || s.Make(y, 1, 2, false) || !s.Unmake(y) || len(s.Points()) != 0 {
		t.Error("nil and empty differ")
	}
}

// Promise 9.1 and Rule 3: a transaction stays as it is, with what lies behind its slices, and is not kept.
func TestArgumentsStay(t *testing.T) {
	text, ins, outs := roomy()
	x := api.Tx{Version: 2, Ins: ins[:1], Outs: outs[:2]}
	s := coin.New()
	l := points(x, 2)
	if !s.Make(x, 1, 2, true) || s.Make(x, 3, 4, false) || !s.Unmake(x) || s.Unmake(x) || !s.Make(x, 1, 2, true) {
		t.Error("not as it should be")
	}
	sameText, sameIns, sameOuts := roomy()
	if !bytes.Equal(text, sameText) || !reflect.DeepEqual(ins, sameIns) || !reflect.DeepEqual(outs, sameOuts) {
		t.Error("changed")
	}
	clear(text)
	clear(ins)
	clear(outs)
	pointsAre(t, "after a change of the transaction", s, l...)
	coinIs(t, "after a change of the transaction", s, l[0], api.Coin{Value: 5, Height: 1, Time: 2, Base: true}, true)
	coinIs(t, "after a change of the transaction", s, l[1], api.Coin{Value: 6, Height: 1, Time: 2, Base: true}, true)
}

// roomy returns what a transaction is made of, and behind it what does not belong to it: all bytes but the first one, all Ins but the first one, and all Outs but the first two.
func roomy() ([]byte, []api.In, []api.Out) {
	b := []byte{1, 88, 88, 88}
	witness := [][]byte{b[:1], {88}, {88}}
	ins := []api.In{{Prev: api.ID{7}, Script: b[:1], Witness: witness[:1]}, {Vout: 88}, {Vout: 88}}
	outs := []api.Out{{Value: 5, Script: b[:1]}, {Value: 6}, {Value: 88}, {Value: 88}}
	return b, ins, outs
}

// Promise 9.3: no call panics, and every call ends, also for transactions that are not valid and numbers that no chain has.
func TestNoCallPanics(t *testing.T) {
	long := worth(2, values(51)...)
	script := worth(2, 5, 6)
	script.Outs[1].Script = make([]byte, 501)
	list := []api.Tx{
		{}, {Outs: []api.Out{}}, {Outs: make([]api.Out, 3)}, {Ins: make([]api.In, 51)}, {Ins: make([]api.In, 1)},
		worth(2), long, script, worth(math.MaxUint32, values(70_000)...), worth(2, values(50)...),
	}
	for _, x := range list {
		s := coin.New()
		for _, n := range []int{0, 1, -1, math.MaxInt, math.MinInt} {
			s.Make(x, n, -n, n > 0)
			s.Make(x, n, n, n < 0)
			s.Points()
			s.Get(at(0, math.MaxUint32))
			s.Take(api.Point{ID: idsx.Txid(x)})
			s.Put(api.Point{ID: idsx.Txid(x)}, api.Coin{Height: n})
			s.Unmake(x)
			s.Unmake(x)
		}
	}
}
