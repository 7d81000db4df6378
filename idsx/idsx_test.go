package idsx_test

import (
	"bytes"
	"crypto/sha256"
	"encoding/binary"
	"encoding/hex"
	"math"
	"slices"
	"testing"

	"lighterage/api"
	"lighterage/idsx"
)

// text returns n bytes of which no two neighbours are alike.
func text(n int) []byte {
	b := make([]byte, n)
	for i := range b {
		b[i] = byte(i*7 + n)
	}
	return b
}

// plain is a transaction without a Witness.
func plain() api.Tx {
	return api.Tx{
		Version: 2,
		Ins: []api.In{
			{Prev: api.ID{0: 3, 31: 4}, Vout: 0x04030201, Script: text(7), Seq: 0xf4f3f2f1},
			{Prev: api.ID{5}, Vout: 1, Seq: math.MaxUint32},
		},
		Outs: []api.Out{{Value: 0x0807060504030201, Script: text(22)}, {Value: 7}},
		Lock: 0x24232221,
	}
}

// rich is plain with Witnesses.
func rich() api.Tx {
	return with(plain(), func(t *api.Tx) {
		t.Ins[0].Witness = [][]byte{text(300), nil}
		t.Ins[1].Witness = [][]byte{text(4)}
	})
}

// big is as large as a valid transaction can be.
func big() api.Tx {
	t := api.Tx{Version: math.MaxUint32, Lock: math.MaxUint32}
	for i := range 50 {
		t.Ins = append(t.Ins, api.In{Prev: api.ID{byte(i)}, Script: text(500), Witness: slices.Repeat([][]byte{text(500)}, 10)})
		t.Outs = append(t.Outs, api.Out{Value: math.MaxUint64 - uint64(i), Script: text(500)})
	}
	return t
}

// with returns what turn makes of t.
func with(t api.Tx, turn func(t *api.Tx)) api.Tx {
	turn(&t)
	return t
}

// witnessed is plain with one element of n bytes in the last Witness.
func witnessed(n int) api.Tx {
	return with(plain(), func(t *api.Tx) { t.Ins[1].Witness = [][]byte{text(n)} })
}

// valid are transactions up to the edges of what is valid.
func valid() map[string]api.Tx {
	list := map[string]api.Tx{
		"plain":             plain(),
		"rich":              rich(),
		"big":               big(),
		"zeros":             {Ins: make([]api.In, 1), Outs: make([]api.Out, 1)},
		"one empty element": witnessed(0),
		"no elements":       with(plain(), func(t *api.Tx) { t.Ins[0].Witness = [][]byte{} }),
		"50 Ins":            with(plain(), func(t *api.Tx) { t.Ins = slices.Repeat(t.Ins, 25) }),
		"50 Outs":           with(rich(), func(t *api.Tx) { t.Outs = slices.Repeat(t.Outs, 25) }),
		"Script of 252":     with(rich(), func(t *api.Tx) { t.Ins[0].Script = text(252) }),
		"Script of 253":     with(rich(), func(t *api.Tx) { t.Ins[0].Script = text(253) }),
		"Script of 500":     with(plain(), func(t *api.Tx) { t.Outs[1].Script = text(500) }),
		"element of 252":    witnessed(252),
		"element of 253":    witnessed(253),
		"element of 500":    witnessed(500),
	}
	for n := range 9 {
		list["element of "+string(rune('0'+n))] = witnessed(n)
	}
	return list
}

// invalid are transactions that are not valid, most of them by one fault just beyond the edge.
func invalid() map[string]api.Tx {
	return map[string]api.Tx{
		"zero":             {},
		"numbers alone":    {Version: 2, Lock: 3},
		"no Ins":           with(rich(), func(t *api.Tx) { t.Ins = nil }),
		"no Outs":          with(rich(), func(t *api.Tx) { t.Outs = []api.Out{} }),
		"51 Ins":           with(big(), func(t *api.Tx) { t.Ins = append(t.Ins, api.In{}) }),
		"51 Outs":          with(plain(), func(t *api.Tx) { t.Outs = slices.Repeat(t.Outs[:1], 51) }),
		"Script of an In":  with(plain(), func(t *api.Tx) { t.Ins[1].Script = text(501) }),
		"Script of an Out": with(plain(), func(t *api.Tx) { t.Outs[0].Script = text(501) }),
		"11 elements":      with(plain(), func(t *api.Tx) { t.Ins[0].Witness = make([][]byte, 11) }),
		"element of 501":   witnessed(501),
		"very much": {
			Ins:  []api.In{{Script: make([]byte, 1<<20), Witness: make([][]byte, 1<<16)}},
			Outs: make([]api.Out, 100000),
		},
	}
}

// form is the encoding of a valid transaction, with its Witnesses if whole, written without the packages below.
func form(t api.Tx, whole bool) []byte {
	b := binary.LittleEndian.AppendUint32(nil, t.Version)
	if whole {
		b = append(b, 0, 1)
	}
	b = number(b, len(t.Ins))
	for _, in := range t.Ins {
		b = append(b, in.Prev[:]...)
		b = binary.LittleEndian.AppendUint32(b, in.Vout)
		b = append(number(b, len(in.Script)), in.Script...)
		b = binary.LittleEndian.AppendUint32(b, in.Seq)
	}
	b = number(b, len(t.Outs))
	for _, out := range t.Outs {
		b = binary.LittleEndian.AppendUint64(b, out.Value)
		b = append(number(b, len(out.Script)), out.Script...)
	}
	for i := 0; i < len(t.Ins) && whole; i++ {
		b = number(b, len(t.Ins[i].Witness))
		for _, element := range t.Ins[i].Witness {
			b = append(number(b, len(element)), element...)
		}
	}
	return binary.LittleEndian.AppendUint32(b, t.Lock)
}

func number(b []byte, n int) []byte {
	if n < 253 {
		return append(b, byte(n))
	}
	return append(b, 253, byte(n), byte(n>>8))
}

func hasWitness(t api.Tx) bool {
	return slices.ContainsFunc(t.Ins, func(in api.In) bool { return len(in.Witness) > 0 })
}

// twice is shas.Twice by the library's means.
func twice(b []byte) api.ID {
	once := sha256.Sum256(b)
	return sha256.Sum256(once[:])
}

// quarter is the least number that is at least a quarter of n.
func quarter(n int) int {
	k := 0
	for 4*k < n {
		k++
	}
	return k
}

// Promise 4.1: the names of a transaction that is written out byte by byte, so that each byte of it counts where it stands.
func TestNamesWrittenOut(t *testing.T) {
	x := api.Tx{
		Version: 1,
		Ins:     []api.In{{Prev: api.ID{0: 0xaa, 31: 0xbb}, Vout: 2, Script: []byte{0xcc}, Seq: 0xfffffffd, Witness: [][]byte{{0xdd, 0xee}}}},
		Outs:    []api.Out{{Value: 0x0201, Script: []byte{0x51}}},
		Lock:    9,
	}
	one := slices.Concat([]byte{1, 0xaa}, make([]byte, 30), []byte{0xbb, 2, 0, 0, 0, 1, 0xcc, 0xfd, 0xff, 0xff, 0xff})
	outs := []byte{1, 1, 2, 0, 0, 0, 0, 0, 0, 1, 0x51}
	version, lock := []byte{1, 0, 0, 0}, []byte{9, 0, 0, 0}
	base := slices.Concat(version, one, outs, lock)
	all := slices.Concat(version, []byte{0, 1}, one, outs, []byte{1, 2, 0xdd, 0xee}, lock)
	if idsx.Txid(x) != twice(base) || idsx.Wtxid(x) != twice(all) {
		t.Errorf("%x, %x", idsx.Txid(x), idsx.Wtxid(x))
	}
	if len(base) != 62 || len(all) != 68 || idsx.Weight(x) != 254 || idsx.Size(x) != 64 {
		t.Errorf("%d, %d: %d, %d", len(base), len(all), idsx.Weight(x), idsx.Size(x))
	}
}

// Promise 4.1.
func TestOfValidOnes(t *testing.T) {
	for name, x := range valid() {
		base, all := form(x, false), form(x, hasWitness(x))
		if got := idsx.Txid(x); got != twice(base) {
			t.Errorf("%s: Txid %x", name, got)
		}
		if got := idsx.Wtxid(x); got != twice(all) {
			t.Errorf("%s: Wtxid %x", name, got)
		}
		weight := 3*len(base) + len(all)
		if got := idsx.Weight(x); got != weight {
			t.Errorf("%s: Weight %d, not %d", name, got, weight)
		}
		if got := idsx.Size(x); got != quarter(weight) {
			t.Errorf("%s: Size %d, not %d", name, got, quarter(weight))
		}
	}
}

// Promise 4.1: Weights with each remainder by four, of which all but zero are rounded up.
func TestSizeIsRoundedUp(t *testing.T) {
	size := len(form(plain(), false))
	if idsx.Weight(plain()) != 4*size || idsx.Size(plain()) != size {
		t.Errorf("without a Witness: %d, %d", idsx.Weight(plain()), idsx.Size(plain()))
	}
	for n, more := range []int{2, 2, 2, 2, 3, 3, 3, 3, 4} { // 5 + n bytes are beside the Base: marks, two counts, a length, and n
		if got := idsx.Weight(witnessed(n)) - 4*size; got != 5+n {
			t.Errorf("%d: %d beside the Base", n, got)
		}
		if got := idsx.Size(witnessed(n)) - size; got != more {
			t.Errorf("%d: Size by %d more, not %d", n, got, more)
		}
	}
}

// Promise 4.1 and Rule 7: of what is not valid, there are no bytes.
func TestOfInvalidOnes(t *testing.T) {
	none := twice(nil)
	if hex.EncodeToString(none[:]) != "5df6e0e2761359d30a8275058e299fcc0381534545f55cf43e41983f5d4c9456" {
		t.Errorf("of no bytes: %x", none)
	}
	for name, x := range invalid() {
		if idsx.Txid(x) != none || idsx.Wtxid(x) != none {
			t.Errorf("%s: %x, %x", name, idsx.Txid(x), idsx.Wtxid(x))
		}
		if idsx.Weight(x) != 0 || idsx.Size(x) != 0 {
			t.Errorf("%s: %d, %d", name, idsx.Weight(x), idsx.Size(x))
		}
	}
}

// Promise 4.2: what is no Witness changes both names, and a Witness changes Wtxid alone.
func TestWhatChangesTheNames(t *testing.T) {
	id, whole := idsx.Txid(rich()), idsx.Wtxid(rich())
	if id == whole || id != idsx.Txid(plain()) || id != idsx.Wtxid(plain()) {
		t.Error("with and without Witnesses")
	}
	for name, turn := range map[string]func(t *api.Tx){
		"Version":    func(t *api.Tx) { t.Version++ },
		"Lock":       func(t *api.Tx) { t.Lock ^= 1 << 31 },
		"Prev":       func(t *api.Tx) { t.Ins[1].Prev[31]++ },
		"Vout":       func(t *api.Tx) { t.Ins[1].Vout++ },
		"Script":     func(t *api.Tx) { t.Ins[0].Script[6]++ },
		"Seq":        func(t *api.Tx) { t.Ins[1].Seq-- },
		"Value":      func(t *api.Tx) { t.Outs[0].Value ^= 1 << 63 },
		"Out":        func(t *api.Tx) { t.Outs[0].Script[21]++ },
		"Ins, order": func(t *api.Tx) { t.Ins[0], t.Ins[1] = t.Ins[1], t.Ins[0] },
		"Outs, less": func(t *api.Tx) { t.Outs = t.Outs[:1] },
	} {
		if x := with(rich(), turn); idsx.Txid(x) == id || idsx.Wtxid(x) == whole {
			t.Errorf("%s", name)
		}
	}
	for name, turn := range map[string]func(t *api.Tx){
		"a byte":       func(t *api.Tx) { t.Ins[0].Witness[0][299]++ },
		"an element":   func(t *api.Tx) { t.Ins[0].Witness = t.Ins[0].Witness[:1] },
		"one Witness":  func(t *api.Tx) { t.Ins[1].Witness = nil },
		"all but one":  func(t *api.Tx) { t.Ins[0].Witness = nil },
		"in the other": func(t *api.Tx) { t.Ins[0].Witness, t.Ins[1].Witness = t.Ins[1].Witness, t.Ins[0].Witness },
	} {
		if x := with(rich(), turn); idsx.Txid(x) != id || idsx.Wtxid(x) == whole {
			t.Errorf("%s", name)
		}
	}
}

// Promise 4.2 and Rule 1: nil and empty make no difference.
func TestNilAndEmpty(t *testing.T) {
	full := with(plain(), func(t *api.Tx) {
		t.Ins[0].Witness, t.Ins[1].Witness = [][]byte{}, [][]byte{}
		t.Ins[1].Script, t.Outs[1].Script = []byte{}, []byte{}
	})
	if idsx.Txid(full) != idsx.Txid(plain()) || idsx.Wtxid(full) != idsx.Wtxid(plain()) || idsx.Weight(full) != idsx.Weight(plain()) || idsx.Size(full) != idsx.Size(plain()) {
		t.Error("no elements")
	}
	element := with(plain(), func(t *api.Tx) { t.Ins[1].Witness = [][]byte{nil} })
	if idsx.Txid(element) != idsx.Txid(witnessed(0)) || idsx.Wtxid(element) != idsx.Wtxid(witnessed(0)) || idsx.Weight(element) != idsx.Weight(witnessed(0)) {
		t.Error("an empty element")
	}
}

// Promise 4.2 and Rules 3 and 6: the answers are the same each time, and the transaction stays, with the room behind its slices.
func TestArgumentsStay(t *testing.T) {
	x, before := roomy(), form(whole(roomy()), true)
	want := form(x, true)
	for range 3 {
		if idsx.Txid(x) != twice(form(x, false)) || idsx.Wtxid(x) != twice(want) || idsx.Weight(x) == 0 || idsx.Size(x) == 0 {
			t.Error("another answer")
		}
		if !bytes.Equal(form(whole(x), true), before) || !bytes.Equal(form(x, true), want) {
			t.Fatal("the transaction was changed")
		}
	}
}

// roomy returns rich with spare capacity behind all its slices, filled with something.
func roomy() api.Tx {
	t := rich()
	for i, in := range t.Ins {
		t.Ins[i].Script, t.Ins[i].Witness = room(in.Script, 9), room(in.Witness, []byte{9})
		for k, element := range in.Witness {
			t.Ins[i].Witness[k] = room(element, 9)
		}
	}
	for i, out := range t.Outs {
		t.Outs[i].Script = room(out.Script, 9)
	}
	t.Ins, t.Outs = room(t.Ins, api.In{Vout: 9}), room(t.Outs, api.Out{Value: 9})
	return t
}

func room[E any](l []E, fill E) []E {
	return append(slices.Clone(l), slices.Repeat([]E{fill}, 9)...)[:len(l)]
}

// whole returns t with all its slices up to their capacity.
func whole(t api.Tx) api.Tx {
	t.Ins, t.Outs = slices.Clone(t.Ins[:cap(t.Ins)]), slices.Clone(t.Outs[:cap(t.Outs)])
	for i, in := range t.Ins {
		t.Ins[i].Script = in.Script[:cap(in.Script)]
		t.Ins[i].Witness = slices.Clone(in.Witness[:cap(in.Witness)])
		for k, element := range t.Ins[i].Witness {
			t.Ins[i].Witness[k] = element[:cap(element)]
		}
	}
	for i, out := range t.Outs {
		t.Outs[i].Script = out.Script[:cap(out.Script)]
	}
	return t
}

// Promise 4.3.
func TestNoCallPanics(t *testing.T) {
	for _, list := range []map[string]api.Tx{valid(), invalid()} {
		for name, x := range list {
			calls(t, name, x)
		}
	}
}

func calls(t *testing.T, name string, x api.Tx) {
	defer func() {
		if fault := recover(); fault != nil {
			t.Errorf("%s: panic: %v", name, fault)
		}
	}()
	idsx.Txid(x)
	idsx.Wtxid(x)
	idsx.Weight(x)
	idsx.Size(x)
}
