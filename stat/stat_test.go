package stat_test

import (
	"math"
	"reflect"
	"slices"
	"testing"

	"lighterage/api"
	"lighterage/idsx"
	"lighterage/stat"
)

const (
	most  = 2100000000000000
	never = math.MaxUint32 // with a Prev of zeros, the Vout of the point that is no output
)

// script returns head and n bytes behind it, of which no two neighbours are alike.
func script(n int, head ...byte) []byte {
	b := slices.Clone(head)
	for i := range n {
		b = append(b, byte(i*7+n))
	}
	return b
}

func anchor(value uint64) api.Out {
	return api.Out{Value: value, Script: script(0, 0x51, 2, 0x4e, 0x73)}
}

func keyed(value uint64) api.Out { return api.Out{Value: value, Script: script(20, 0, 20)} }

func hashed(value uint64) api.Out { return api.Out{Value: value, Script: script(32, 0, 32)} }

func rooted(value uint64) api.Out { return api.Out{Value: value, Script: script(32, 0x51, 32)} }

func data(n int, value uint64) api.Out { return api.Out{Value: value, Script: script(n, 0x6a)} }

func in(first byte, vout uint32) api.In {
	return api.In{Prev: api.ID{first}, Vout: vout, Seq: math.MaxUint32}
}

// ins returns n Ins that are all different.
func ins(n int) []api.In {
	var l []api.In
	for i := range n {
		l = append(l, in(byte(i%7), uint32(i/7)))
	}
	return l
}

// good is a transaction of which there is nothing to refuse: it has each kind, and each Value is the least of its kind, but for one.
func good() api.Tx {
	return api.Tx{
		Version: 2,
		Ins:     []api.In{in(1, 0), in(1, 1), in(2, 0)},
		Outs:    []api.Out{keyed(294), hashed(330), rooted(330), anchor(240), data(5, 0), keyed(5000)},
		Lock:    7,
	}
}

// with returns what turn makes of t.
func with(t api.Tx, turn func(t *api.Tx)) api.Tx {
	turn(&t)
	return t
}

// spending is good with other Ins.
func spending(l ...api.In) api.Tx {
	return with(good(), func(t *api.Tx) { t.Ins = l })
}

// paying is good with other Outs.
func paying(l ...api.Out) api.Tx {
	return with(good(), func(t *api.Tx) { t.Outs = l })
}

// worth is good with an Out of one kind for each Value.
func worth(values ...uint64) api.Tx {
	var outs []api.Out
	for _, v := range values {
		outs = append(outs, rooted(v))
	}
	return paying(outs...)
}

// codeIs holds Check against the code that the chapter gives.
func codeIs(t *testing.T, name string, x api.Tx, want int) {
	t.Helper()
	if got := stat.Check(x); got != want {
		t.Errorf("%s: %d, not %d", name, got, want)
	}
}

// faults are in the order of the chapter: the first one makes Check return 1, and so on. Each can be laid over a transaction that has others.
func faults() []func(t *api.Tx) {
	return []func(t *api.Tx){
		func(t *api.Tx) { t.Ins[0].Witness = make([][]byte, 11) },
		func(t *api.Tx) { t.Version = 4 },
		func(t *api.Tx) {
			for i := range uint32(40) {
				t.Ins = append(t.Ins, api.In{Prev: api.ID{9}, Vout: i, Script: script(500)})
			}
		},
		func(t *api.Tx) { t.Ins = append(t.Ins, in(0, never)) },
		func(t *api.Tx) { t.Ins = append(t.Ins, t.Ins[1]) },
		func(t *api.Tx) { t.Outs = append(t.Outs, api.Out{Value: 1000}) },
		func(t *api.Tx) { t.Outs = append(t.Outs, data(0, 0)) }, // good has one
		func(t *api.Tx) { t.Outs = append(t.Outs, keyed(most)) },
		func(t *api.Tx) { t.Outs = append(t.Outs, anchor(239), keyed(0)) },
	}
}

// Promise 8.1: the codes are those of package api, each has its fault, and the first one of several holds, whatever the others are.
func TestFirstOfAllFaults(t *testing.T) {
	codes := []int{api.RParse, api.RVersion, api.RWeight, api.RNull, api.RTwice, api.RKind, api.RData, api.RMoney, api.RDust}
	list := faults()
	for set := range 1 << len(list) {
		x, want := good(), 0
		for i := len(list) - 1; i >= 0; i-- {
			if set>>i&1 == 1 {
				list[i](&x)
				want = i + 1
			}
		}
		if want > 0 && want != codes[want-1] {
			t.Fatalf("code %d is %d", want, codes[want-1])
		}
		if got := stat.Check(x); got != want {
			t.Errorf("faults %09b: %d, not %d", set, got, want)
		}
	}
}

// Promise 8.1 and Rule 7: what is not valid is told before all else.
func TestWhatIsNotValid(t *testing.T) {
	for name, x := range invalid() {
		codeIs(t, name, x, api.RParse)
	}
	for name, x := range map[string]api.Tx{
		"50 Ins":           spending(ins(50)...),
		"50 Outs":          paying(slices.Repeat([]api.Out{keyed(294)}, 50)...),
		"one In, one Out":  {Version: 1, Ins: ins(1), Outs: []api.Out{keyed(294)}},
		"Script of 500":    with(good(), func(t *api.Tx) { t.Ins[2].Script = script(500) }),
		"10 elements":      with(good(), func(t *api.Tx) { t.Ins[2].Witness = make([][]byte, 10) }),
		"element of 500":   with(good(), func(t *api.Tx) { t.Ins[2].Witness = [][]byte{script(500)} }),
		"other Lock":       with(good(), func(t *api.Tx) { t.Lock = math.MaxUint32 }),
		"Seqs that differ": with(good(), func(t *api.Tx) { t.Ins[0].Seq, t.Ins[1].Seq = 0, 1<<31 }),
	} {
		codeIs(t, name, x, 0)
	}
}

// invalid are transactions that are not valid, most of them by one fault just beyond the edge.
func invalid() map[string]api.Tx {
	return map[string]api.Tx{
		"zero":             {},
		"no Ins":           spending(),
		"no Outs":          paying(),
		"empty":            {Version: 2, Ins: []api.In{}, Outs: []api.Out{}},
		"51 Ins":           spending(ins(51)...),
		"51 Outs":          paying(slices.Repeat([]api.Out{keyed(294)}, 51)...),
		"Script of an In":  with(good(), func(t *api.Tx) { t.Ins[2].Script = script(501) }),
		"Script of an Out": paying(keyed(294), data(500, 0)),
		"11 elements":      with(good(), func(t *api.Tx) { t.Ins[2].Witness = make([][]byte, 11) }),
		"element of 501":   with(good(), func(t *api.Tx) { t.Ins[0].Witness = [][]byte{nil, script(501)} }),
		"Version alone":    {Version: 9},
		"null In, no Outs": {Version: 2, Ins: []api.In{in(0, never)}},
		"very much": {
			Ins:  []api.In{{Script: make([]byte, 1<<20), Witness: make([][]byte, 1<<16)}},
			Outs: make([]api.Out, 100000),
		},
	}
}

// Promise 8.1.
func TestVersions(t *testing.T) {
	for v := range uint32(600) {
		want := api.RVersion
		if 1 <= v && v <= 3 {
			want = 0
		}
		codeIs(t, "Version", with(good(), func(t *api.Tx) { t.Version = v }), want)
	}
	for _, v := range []uint32{1<<16 + 2, math.MaxInt32, 1 << 31, 1<<31 + 1, 1<<31 + 3, math.MaxUint32 - 1, math.MaxUint32} {
		codeIs(t, "great Version", with(good(), func(t *api.Tx) { t.Version = v }), api.RVersion)
	}
}

// plainly has 37 Ins, of which 36 have a Script of 500 bytes, and one Out; of its bytes, all of which count fourfold, 10 stand around these.
func plainly(last int) api.Tx {
	x := spending(ins(37)...)
	for i := range x.Ins {
		x.Ins[i].Script = script(500)
	}
	x.Ins[36].Script = script(last)
	x.Outs = []api.Out{keyed(294)}
	return x
}

// witnessed has 38 Ins without a Script and one Out, and 146 elements of 500 bytes and a last one in its Witnesses.
func witnessed(last int) api.Tx {
	x := spending(ins(38)...)
	for i := range 146 {
		x.Ins[i%15].Witness = append(x.Ins[i%15].Witness, script(500))
	}
	x.Ins[37].Witness = [][]byte{script(last)}
	x.Outs = []api.Out{keyed(294)}
	return x
}

// Promise 8.1: each Weight around 80,000 that there is, with and without Witnesses. A byte of a Witness weighs one.
func TestWeights(t *testing.T) {
	for last := 253; last <= 500; last++ {
		weight := 4 * (10 + 36*(40+3+500) + 40 + 3 + last + 31)
		weighs(t, plainly(last), weight)
	}
	for last := range 250 {
		weight := 4*(10+38*41+31) + 2 + 37 + 1 + 146*503 + 1 + last
		weighs(t, witnessed(last), weight)
	}
	if idsx.Weight(plainly(368)) != 80000 || idsx.Weight(plainly(369)) != 80004 || idsx.Weight(witnessed(125)) != 80000 || idsx.Weight(witnessed(126)) != 80001 {
		t.Error("the edge is not among them")
	}
}

func weighs(t *testing.T, x api.Tx, weight int) {
	t.Helper()
	if got := idsx.Weight(x); got != weight {
		t.Fatalf("Weight %d, not %d", got, weight)
	}
	want := 0
	if weight > 80000 {
		want = api.RWeight
	}
	if got := stat.Check(x); got != want {
		t.Errorf("Weight %d: %d, not %d", weight, got, want)
	}
}

// nearly are Ins that come close to the one of RNull: all Prevs but zeros, and all Vouts but one.
func nearly() []api.In {
	l := []api.In{in(0, 0), in(0, never-1), in(0, math.MaxInt32), in(0, 1<<31), in(0, math.MaxUint16), in(255, never)}
	for i := range 32 {
		l = append(l, in(0, never^1<<i), in(0, never))
		l[len(l)-1].Prev[i] = 1
	}
	return l
}

// null is the In of RNull. Nothing but its point counts.
func null() api.In {
	return api.In{Vout: never, Script: script(9), Seq: 5, Witness: [][]byte{script(32)}}
}

// Promise 8.1.
func TestNull(t *testing.T) {
	for _, x := range []api.In{null(), {Vout: never}, in(0, never)} {
		codeIs(t, "alone", spending(x), api.RNull)
		codeIs(t, "first", spending(x, in(1, 0), in(2, 0)), api.RNull)
		codeIs(t, "between", spending(in(1, 0), x, in(2, 0)), api.RNull)
		codeIs(t, "last", spending(in(1, 0), in(2, 0), x), api.RNull)
		codeIs(t, "twice", spending(in(1, 0), x, x), api.RNull)
		codeIs(t, "last of 50", spending(append(ins(49), x)...), api.RNull)
	}
	for _, x := range nearly() {
		codeIs(t, "nearly null", spending(x), 0)
		codeIs(t, "nearly null behind others", spending(in(1, 0), x), 0)
	}
}

// Promise 8.1: each pair of places. What else an In has does not make it another one.
func TestTwice(t *testing.T) {
	for i := range 50 {
		for k := range i {
			l := ins(50)
			l[i] = api.In{Prev: l[k].Prev, Vout: l[k].Vout, Seq: 1, Script: script(3), Witness: [][]byte{{1}}}
			codeIs(t, "a point twice", spending(l...), api.RTwice)
		}
	}
	codeIs(t, "three times", spending(in(1, 0), in(1, 0), in(1, 0)), api.RTwice)
	codeIs(t, "all alike", spending(slices.Repeat(ins(1), 50)...), api.RTwice)
	codeIs(t, "two pairs", spending(in(1, 0), in(2, 0), in(2, 0), in(1, 0)), api.RTwice)
}

// Promise 8.1: Prevs that differ in one byte, and Vouts that differ in one bit, are of two points.
func TestNotTwice(t *testing.T) {
	for i := range 32 {
		other := in(1, 5)
		other.Prev[i] ^= 1
		codeIs(t, "other Prev", spending(in(1, 5), other), 0)
		codeIs(t, "other Vout", spending(in(1, 5), in(1, 5^1<<i)), 0)
	}
	codeIs(t, "the other way round", spending(in(1, 2), in(2, 1)), 0)
	codeIs(t, "alike but for the point", spending(slices.Concat(ins(49), []api.In{{Prev: api.ID{99}}})...), 0)
	codeIs(t, "more than fits a byte", spending(in(1, 0), in(1, 1<<8), in(1, 1<<16), in(1, 1<<24)), 0)
}

// Promise 8.1: an Out of no kind, in each place, whatever its Value is.
func TestOutsOfNoKind(t *testing.T) {
	for name, s := range map[string][]byte{
		"nil":          nil,
		"empty":        {},
		"one byte":     {0},
		"anchor short": {0x51, 2, 0x4e},
		"anchor long":  {0x51, 2, 0x4e, 0x73, 0},
		"key of 19":    script(19, 0, 19),
		"key of 21":    script(21, 0, 20),
		"hash of 33":   script(33, 0, 32),
		"root of 31":   script(31, 0x51, 32),
		"data of 83":   script(83, 0x6a),
		"500 bytes":    script(499, 0x6a),
	} {
		for _, v := range []uint64{0, 239, 5000, most, math.MaxUint64} {
			o := api.Out{Value: v, Script: s}
			codeIs(t, name, paying(o), api.RKind)
			for i := range good().Outs {
				codeIs(t, name, paying(slices.Insert(good().Outs, i+1, o)...), api.RKind)
			}
			codeIs(t, name+", twice", paying(o, keyed(294), o), api.RKind)
		}
	}
}

// Promise 8.1: one Out of SData may be there, alone or in any place, and two may not, as many bytes as they have.
func TestData(t *testing.T) {
	sizes := []int{0, 1, 20, 32, 81, 82}
	for _, n := range sizes {
		codeIs(t, "alone", paying(data(n, 0)), 0)
		codeIs(t, "with a Value", paying(data(n, most)), 0)
		codeIs(t, "first", paying(data(n, 0), keyed(294)), 0)
		codeIs(t, "last", paying(keyed(294), rooted(330), data(n, 7)), 0)
		for _, k := range sizes {
			codeIs(t, "side by side", paying(data(n, 0), data(k, 0)), api.RData)
			codeIs(t, "first and last", paying(data(n, 1), keyed(294), anchor(240), data(k, 5000)), api.RData)
			codeIs(t, "three", paying(data(n, 0), data(k, 0), keyed(294), data(n, 0)), api.RData)
		}
	}
	for name, o := range map[string]api.Out{"anchors": anchor(240), "keys": keyed(294), "scripts": hashed(330), "roots": rooted(330)} {
		codeIs(t, "two "+name, paying(o, o), 0)
		codeIs(t, "50 "+name, paying(slices.Repeat([]api.Out{o}, 50)...), 0)
	}
}

// Promise 8.1: the sum up to the cap and above it, in one Out or in many, and what would be within it if a sum wrapped round.
func TestMoney(t *testing.T) {
	for _, l := range [][]uint64{
		{most}, {most - 1}, {most - 330, 330}, {330, most - 330}, {most / 2, most / 2}, {0, most},
		slices.Repeat([]uint64{most / 50}, 50),
	} {
		codeIs(t, "up to the cap", worth(l...), 0)
	}
	for _, l := range [][]uint64{
		{most + 1}, {most, 1}, {1, most}, {most - 330, 331}, {331, most - 330}, {most / 2, most/2 + 1}, {most, most},
		{330, most + 1, 330}, {330, 330, most + 1},
		append(slices.Repeat([]uint64{most / 50}, 49), most/50+1),
		{math.MaxInt64 + 1}, {math.MaxUint64}, {math.MaxInt64 + 1, math.MaxInt64 + 1}, {math.MaxUint64, 331},
		{most, math.MaxUint64 - most + 331}, {math.MaxUint64 - 329, 330, 330},
	} {
		codeIs(t, "above the cap", worth(l...), api.RMoney)
	}
	codeIs(t, "by what data has", paying(keyed(294), data(3, most)), api.RMoney)
	codeIs(t, "by an anchor", paying(keyed(most), anchor(1)), api.RMoney)
	codeIs(t, "with each kind", paying(anchor(240), keyed(294), hashed(330), rooted(330), data(9, most-1194)), 0)
	codeIs(t, "with each kind, and one more", paying(anchor(240), keyed(294), hashed(330), rooted(330), data(9, most-1193)), api.RMoney)
}

// kind is one that can be dust, below its least.
type kind struct {
	least uint64
	out   func(value uint64) api.Out
}

// Promises 8.1 and 8.2: one Out may be dust, and two of any kinds in any places may not; a Value of the least is none.
func TestDust(t *testing.T) {
	kinds := []kind{{240, anchor}, {294, keyed}, {330, hashed}, {330, rooted}}
	for _, a := range kinds {
		for _, v := range []uint64{0, 1, a.least - 1} {
			dust := a.out(v)
			codeIs(t, "alone", paying(dust), 0)
			codeIs(t, "one", paying(append(good().Outs, dust)...), 0)
			for _, b := range kinds {
				codeIs(t, "one, and the least", paying(dust, b.out(b.least)), 0)
				codeIs(t, "the least, and one", paying(b.out(b.least), keyed(5000), dust), 0)
				codeIs(t, "side by side", paying(b.out(b.least-1), dust), api.RDust)
				codeIs(t, "first and last", paying(dust, keyed(5000), b.out(0)), api.RDust)
				codeIs(t, "three", paying(dust, b.out(0), dust), api.RDust)
			}
		}
	}
	codeIs(t, "data is none", paying(data(0, 0), anchor(0)), 0)
	codeIs(t, "50", paying(slices.Repeat([]api.Out{keyed(0)}, 50)...), api.RDust)
}

// Promise 8.1: of what Coinbase has, nothing but its Ins counts, so that it may be refused for any other fault.
func TestCoinbase(t *testing.T) {
	for name, x := range map[string]api.Tx{
		"the In alone":      {Ins: []api.In{{Vout: never}}},
		"all of its fields": {Ins: []api.In{null()}},
		"with Outs":         spending(null()),
		"Version 9":         with(spending(null()), func(t *api.Tx) { t.Version = 9 }),
		"empty Outs":        {Version: 1, Ins: []api.In{in(0, never)}, Outs: []api.Out{}},
		"51 Outs":           {Version: 1, Ins: []api.In{in(0, never)}, Outs: make([]api.Out, 51)},
		"long Script":       {Version: 1, Ins: []api.In{{Vout: never, Script: script(501)}}},
		"long Witness":      {Version: 1, Ins: []api.In{{Vout: never, Witness: make([][]byte, 11)}}},
	} {
		if !stat.Coinbase(x) {
			t.Errorf("%s: none", name)
		}
	}
	for name, x := range map[string]api.Tx{
		"zero":         {},
		"empty Ins":    {Ins: []api.In{}, Outs: []api.Out{keyed(294)}},
		"good":         good(),
		"one In":       spending(in(1, 0)),
		"zero In":      spending(api.In{}),
		"two":          spending(null(), null()),
		"first of two": spending(null(), in(1, 0)),
		"last of two":  spending(in(1, 0), null()),
		"51":           spending(slices.Repeat([]api.In{null()}, 51)...),
	} {
		if stat.Coinbase(x) {
			t.Errorf("%s: one", name)
		}
	}
	for _, x := range nearly() {
		if stat.Coinbase(spending(x)) || stat.Coinbase(api.Tx{Ins: []api.In{x}}) {
			t.Errorf("%x, %d: one", x.Prev, x.Vout)
		}
	}
}

// Promise 8.2 and Rule 1: nil and empty make no difference.
func TestNilAndEmpty(t *testing.T) {
	for _, witness := range [][][]byte{nil, {}} {
		for _, s := range [][]byte{nil, {}} {
			x := spending(api.In{Prev: api.ID{1}, Script: s, Witness: witness})
			codeIs(t, "good", x, 0)
			x.Outs = append(x.Outs, api.Out{Value: 5, Script: s})
			codeIs(t, "no kind", x, api.RKind)
			if !stat.Coinbase(spending(api.In{Vout: never, Script: s, Witness: witness})) {
				t.Error("no coinbase")
			}
		}
	}
}

// all are transactions with each of the codes, and without.
func all() []api.Tx {
	l := []api.Tx{good(), {}, plainly(368), witnessed(125), spending(null())}
	for _, turn := range faults() {
		l = append(l, with(good(), turn))
	}
	return l
}

// Promise 8.2 and Rules 3 and 6: the results are the same each time, and the transaction stays, with the room behind its slices.
func TestArgumentsStay(t *testing.T) {
	for i, x := range all() {
		code, base := stat.Check(x), stat.Coinbase(x)
		x, before := roomy(x), whole(roomy(x))
		for range 3 {
			if got := stat.Check(x); got != code {
				t.Errorf("%d: %d, before %d", i, got, code)
			}
			if got := stat.Coinbase(x); got != base {
				t.Errorf("%d: %t, before %t", i, got, base)
			}
			if !reflect.DeepEqual(whole(x), before) {
				t.Fatalf("%d: the transaction was changed", i)
			}
		}
	}
}

// roomy returns a copy of t with room behind each slice, where there is what would make another transaction of it.
func roomy(t api.Tx) api.Tx {
	t.Ins, t.Outs = room(t.Ins, null()), room(t.Outs, keyed(0))
	for i, x := range t.Ins {
		t.Ins[i].Script, t.Ins[i].Witness = room(x.Script, 9), room(x.Witness, script(501))
		for k, element := range t.Ins[i].Witness {
			t.Ins[i].Witness[k] = room(element, 9)
		}
	}
	for i, o := range t.Outs {
		t.Outs[i].Script = room(o.Script, 9)
	}
	return t
}

func room[E any](l []E, fill E) []E {
	return append(slices.Clone(l), slices.Repeat([]E{fill}, 60)...)[: len(l) : len(l)+60]
}

// whole returns a copy of t with all its slices up to their capacity.
func whole(t api.Tx) api.Tx {
	t.Ins, t.Outs = upTo(t.Ins), upTo(t.Outs)
	for i, x := range t.Ins {
		t.Ins[i].Script, t.Ins[i].Witness = upTo(x.Script), upTo(x.Witness)
		for k, element := range t.Ins[i].Witness {
			t.Ins[i].Witness[k] = upTo(element)
		}
	}
	for i, o := range t.Outs {
		t.Outs[i].Script = upTo(o.Script)
	}
	return t
}

func upTo[E any](l []E) []E {
	return slices.Clone(l[:cap(l)])
}

// Promise 8.3.
func TestNoCallPanics(t *testing.T) {
	list := append(all(), api.Tx{Ins: make([]api.In, 1<<16), Outs: make([]api.Out, 1<<16)}, spending(make([]api.In, 50)...))
	for _, x := range invalid() {
		list = append(list, x)
	}
	for _, x := range list {
		calls(t, x)
		calls(t, api.Tx{Ins: x.Ins})
		calls(t, api.Tx{Version: x.Version, Outs: x.Outs})
		calls(t, with(x, func(t *api.Tx) { t.Outs = make([]api.Out, 50) }))
	}
}

func calls(t *testing.T, x api.Tx) {
	defer func() {
		if fault := recover(); fault != nil {
			t.Errorf("%d Ins, %d Outs: panic: %v", len(x.Ins), len(x.Outs), fault)
		}
	}()
	stat.Check(x)
	stat.Coinbase(x)
}
