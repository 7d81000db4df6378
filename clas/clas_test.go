package clas_test

import (
	"bytes"
	"encoding/hex"
	"math"
	"reflect"
	"slices"
	"testing"

	"lighterage/api"
	"lighterage/clas"
)

// sample is a script, and what the document makes of it.
type sample struct {
	name   string
	script []byte
	kind   int
	least  uint64
}

// bytesOf returns what the hexadecimal head stands for, and n bytes behind it, of which no two neighbours are alike.
func bytesOf(head string, n int) []byte {
	b, err := hex.DecodeString(head)
	if err != nil {
		panic(err)
	}
	for i := range n {
		b = append(b, byte(i*7+n))
	}
	return b
}

// samples has each kind, with the edges of the kinds that have a size.
func samples() []sample {
	return []sample{
		{"nil", nil, 0, 0},
		{"empty", []byte{}, 0, 0},
		{"anchor", bytesOf("51024e73", 0), 1, 240},
		{"key", bytesOf("0014", 20), 2, 294},
		{"key of zeros", append(bytesOf("0014", 0), make([]byte, 20)...), 2, 294},
		{"script", bytesOf("0020", 32), 3, 330},
		{"script of zeros", append(bytesOf("0020", 0), make([]byte, 32)...), 3, 330},
		{"root", bytesOf("5120", 32), 4, 330},
		{"root of 255", append(bytesOf("5120", 0), bytes.Repeat([]byte{255}, 32)...), 4, 330},
		{"data without bytes", bytesOf("6a", 0), 5, 0},
		{"data of 1", bytesOf("6a", 1), 5, 0},
		{"data of 21, as many as a key", bytesOf("6a14", 20), 5, 0},
		{"data of 33, as many as a root", bytesOf("6a20", 32), 5, 0},
		{"data of 81", bytesOf("6a", 81), 5, 0},
		{"data of 82", bytesOf("6a", 82), 5, 0},
	}
}

// others are scripts of no kind, most of them by one fault.
func others() map[string][]byte {
	return map[string][]byte{
		"anchor, one byte":      bytesOf("51", 0),
		"anchor, two bytes":     bytesOf("5102", 0),
		"anchor, three bytes":   bytesOf("51024e", 0),
		"anchor and a byte":     bytesOf("51024e7300", 0),
		"anchor, other first":   bytesOf("50024e73", 0),
		"anchor, other second":  bytesOf("51034e73", 0),
		"anchor, other third":   bytesOf("51024f73", 0),
		"anchor, other fourth":  bytesOf("51024e74", 0),
		"anchor behind a byte":  bytesOf("0051024e73", 0),
		"anchor, the other way": bytesOf("734e0251", 0),
		"key, head":             bytesOf("0014", 0),
		"key of 19":             bytesOf("0014", 19),
		"key of 21":             bytesOf("0014", 21),
		"key, 19 of 19":         bytesOf("0013", 19),
		"key, 21 of 21":         bytesOf("0015", 21),
		"key, 20 as 32":         bytesOf("0020", 20),
		"key, first 01":         bytesOf("0114", 20),
		"key, first 51":         bytesOf("5114", 20),
		"script, head":          bytesOf("0020", 0),
		"script of 31":          bytesOf("0020", 31),
		"script of 33":          bytesOf("0020", 33),
		"script, 31 of 31":      bytesOf("001f", 31),
		"script, 33 of 33":      bytesOf("0021", 33),
		"script, 32 as 20":      bytesOf("0014", 32),
		"script, first 01":      bytesOf("0120", 32),
		"root, head":            bytesOf("5120", 0),
		"root of 31":            bytesOf("5120", 31),
		"root of 33":            bytesOf("5120", 33),
		"root, 33 of 33":        bytesOf("5121", 33),
		"root, 32 as 20":        bytesOf("5114", 32),
		"root, first 50":        bytesOf("5020", 32),
		"root, first 52":        bytesOf("5220", 32),
		"data of 83":            bytesOf("6a", 83),
		"data of 84":            bytesOf("6a", 84),
		"data of 499":           bytesOf("6a", 499),
		"data of 500":           bytesOf("6a", 500),
		"data of 337":           bytesOf("6a", 337), // 82, if the size were held in a byte
		"data of very many":     bytesOf("6a", 1<<20),
		"first 69":              bytesOf("69", 20),
		"first 6b":              bytesOf("6b", 20),
		"6a behind a byte":      bytesOf("006a", 0),
		"one byte 00":           bytesOf("00", 0),
		"one byte 14":           bytesOf("14", 0),
		"one byte ff":           bytesOf("ff", 0),
		"much else":             bytesOf("76a914", 22),
	}
}

// kindOf is Kind by the first two bytes and the length, without what stands behind: no anchor is among what it is asked for.
func kindOf(first, second byte, length int) int {
	switch [3]int{int(first), int(second), length} {
	case [3]int{0x00, 0x14, 22}:
		return 2
	case [3]int{0x00, 0x20, 34}:
		return 3
	case [3]int{0x51, 0x20, 34}:
		return 4
	}
	if first == 0x6a && length <= 83 {
		return 5
	}
	return 0
}

// mixed is a transaction of all samples, each with the Values around its least, and the places of those that are dust.
func mixed() (api.Tx, []int) {
	var t api.Tx
	var dust []int
	for _, s := range samples() {
		for _, v := range []uint64{s.least, s.least - 1, 0, 1 << 40} {
			if v < s.least {
				dust = append(dust, len(t.Outs))
			}
			t.Outs = append(t.Outs, api.Out{Value: v, Script: s.script})
		}
	}
	return t, dust
}

// Promise 6.1.
func TestKind(t *testing.T) {
	for _, s := range samples() {
		if got := clas.Kind(s.script); got != s.kind {
			t.Errorf("%s: %d, not %d", s.name, got, s.kind)
		}
	}
	for name, script := range others() {
		if got := clas.Kind(script); got != 0 {
			t.Errorf("%s: %d, not 0", name, got)
		}
	}
}

// Promise 6.1: the numbers of the kinds are those of package api.
func TestKindIsNamed(t *testing.T) {
	for head, want := range map[string]int{
		"51024e73": api.SAnchor,
		"0014" + "000102030405060708090a0b0c0d0e0f10111213":                         api.SKey,
		"0020" + "000102030405060708090a0b0c0d0e0f101112131415161718191a1b1c1d1e1f": api.SScript,
		"5120" + "000102030405060708090a0b0c0d0e0f101112131415161718191a1b1c1d1e1f": api.SRoot,
		"6a": api.SData,
		"":   api.SNone,
	} {
		if got := clas.Kind(bytesOf(head, 0)); got != want {
			t.Errorf("%s: %d, not %d", head, got, want)
		}
	}
}

// Promise 6.1: all pairs of first bytes, and all lengths up to beyond the longest kind.
func TestKindOfAllHeads(t *testing.T) {
	for length := 2; length <= 90; length++ {
		script := bytesOf("0000", length-2)
		for head := range 1 << 16 {
			script[0], script[1] = byte(head>>8), byte(head)
			want := kindOf(script[0], script[1], length)
			if got := clas.Kind(script); got != want {
				t.Fatalf("%x: %d, not %d", script, got, want)
			}
		}
	}
	for first := range 256 {
		if got, want := clas.Kind([]byte{byte(first)}), kindOf(byte(first), 0, 1); got != want {
			t.Errorf("%x alone: %d, not %d", first, got, want)
		}
	}
}

// Promise 6.1: which byte behind the first ones may be any, and which is fixed.
func TestKindByEachByte(t *testing.T) {
	for _, s := range samples() {
		for i := range s.script {
			for v := range 256 {
				script := slices.Clone(s.script)
				script[i] = byte(v)
				want := kindOf(script[0], slices.Concat(script, []byte{0})[1], len(script))
				if hex.EncodeToString(script) == "51024e73" {
					want = 1
				}
				if got := clas.Kind(script); got != want {
					t.Errorf("%x: %d, not %d", script, got, want)
				}
			}
		}
	}
}

// Promise 6.1: the four kinds that have a least, and all other numbers.
func TestLeast(t *testing.T) {
	want := map[int]uint64{api.SAnchor: 240, api.SKey: 294, api.SScript: 330, api.SRoot: 330}
	for kind := -600; kind <= 600; kind++ {
		if got := clas.Least(kind); got != want[kind] {
			t.Errorf("%d: %d, not %d", kind, got, want[kind])
		}
	}
	for _, kind := range []int{math.MinInt, math.MinInt + 1, math.MinInt32, math.MaxInt32, 1<<32 + 1, 1<<32 + 4, math.MaxInt - 1, math.MaxInt} {
		if got := clas.Least(kind); got != 0 {
			t.Errorf("%d: %d, not 0", kind, got)
		}
	}
}

// Promises 6.1 and 6.2: each Value around the least of each kind, and very great ones. What has no least is never dust.
func TestDust(t *testing.T) {
	for _, s := range samples() {
		for v := range uint64(400) {
			if got := clas.Dust(api.Out{Value: v, Script: s.script}); got != (v < s.least) {
				t.Errorf("%d for %s: %t", v, s.name, got)
			}
		}
		for _, v := range []uint64{1 << 8, 1 << 32, 1<<32 + 1, 2100000000000000, 2100000000000001, math.MaxInt64, math.MaxInt64 + 1, math.MaxUint64} {
			if got := clas.Dust(api.Out{Value: v, Script: s.script}); got != (v < s.least) {
				t.Errorf("%d for %s: %t", v, s.name, got)
			}
		}
	}
	for name, script := range others() {
		for _, v := range []uint64{0, 1, 239, 330} {
			if clas.Dust(api.Out{Value: v, Script: script}) {
				t.Errorf("%d for %s is dust", v, name)
			}
		}
	}
}

// Promises 6.1 and 6.2.
func TestDusts(t *testing.T) {
	anchor := bytesOf("51024e73", 0)
	key := bytesOf("0014", 20)
	root := bytesOf("5120", 32)
	for name, c := range map[string]struct {
		outs []api.Out
		want []int
	}{
		"no Outs":      {nil, nil},
		"empty Outs":   {[]api.Out{}, nil},
		"none":         {[]api.Out{{Value: 240, Script: anchor}, {Value: 294, Script: key}, {Value: 330, Script: root}, {}}, nil},
		"the only one": {[]api.Out{{Script: anchor}}, []int{0}},
		"the first":    {[]api.Out{{Value: 293, Script: key}, {Value: 5000, Script: key}}, []int{0}},
		"the last":     {[]api.Out{{Value: 5000, Script: key}, {Script: bytesOf("6a", 3)}, {Value: 239, Script: anchor}}, []int{2}},
		"the middle":   {[]api.Out{{Value: 330, Script: root}, {Value: 329, Script: root}, {Value: 330, Script: root}}, []int{1}},
		"all, alike":   {[]api.Out{{Script: anchor}, {Script: anchor}, {Script: anchor}}, []int{0, 1, 2}},
	} {
		if got := clas.Dusts(api.Tx{Outs: c.outs}); !slices.Equal(got, c.want) {
			t.Errorf("%s: %d, not %d", name, got, c.want)
		}
	}
}

// Promises 6.1 and 6.2: Dusts has exactly the indexes of which Dust says so, whatever the transaction has beside its Outs.
func TestDustsOfAllKinds(t *testing.T) {
	tx, want := mixed()
	for name, other := range map[string]api.Tx{
		"Outs alone": {},
		"all else":   {Version: 3, Lock: 9, Ins: []api.In{{Prev: api.ID{1}, Vout: 2, Script: bytesOf("51024e73", 0), Seq: 4, Witness: [][]byte{{1}}}}},
	} {
		other.Outs = tx.Outs
		if got := clas.Dusts(other); !slices.Equal(got, want) {
			t.Errorf("%s: %d, not %d", name, got, want)
		}
	}
	for i, o := range tx.Outs {
		if clas.Dust(o) != slices.Contains(want, i) {
			t.Errorf("Out %d", i)
		}
	}
}

// Promise 6.1 and Rule 7: transactions that are not valid are no exception.
func TestDustsOfWhatIsNotValid(t *testing.T) {
	const n = 3000
	var outs []api.Out
	var want []int
	for i := range n {
		outs = append(outs, api.Out{Value: uint64(i % 2), Script: bytesOf("51024e73", i%3)}, api.Out{Script: bytesOf("6a", 500)})
		if i%3 == 0 {
			want = append(want, 2*i)
		}
	}
	if got := clas.Dusts(api.Tx{Outs: outs}); !slices.Equal(got, want) {
		t.Errorf("%d indexes, not %d", len(got), len(want))
	}
}

// Promise 6.2 and Rules 3 and 6: the results are the same each time, and the arguments stay, with the room behind their scripts and Outs.
func TestArgumentsStay(t *testing.T) {
	tx, want := mixed()
	for i := range tx.Outs {
		room := append(slices.Clone(tx.Outs[i].Script), 0x51, 2, 0x4e, 0x73)
		tx.Outs[i].Script = room[:len(room)-4]
	}
	outs := append(slices.Clone(tx.Outs), api.Out{Value: 7, Script: []byte{9}})
	tx.Outs = outs[:len(outs)-1]
	before := deep(outs)
	for range 3 {
		if got := clas.Dusts(tx); !slices.Equal(got, want) {
			t.Errorf("%d, not %d", got, want)
		}
		for _, o := range tx.Outs {
			clas.Dust(o)
			clas.Kind(o.Script)
		}
	}
	if !reflect.DeepEqual(deep(outs), before) {
		t.Errorf("%v have become %v", before, deep(outs))
	}
}

// deep copies Outs with their scripts, up to the end of the room behind them.
func deep(outs []api.Out) []api.Out {
	l := slices.Clone(outs)
	for i, o := range l {
		l[i].Script = bytes.Clone(o.Script[:cap(o.Script)])
	}
	return l
}

// Promise 6.2 and Rule 3: a result is new memory, with the room behind it.
func TestDustsAreNewMemory(t *testing.T) {
	tx, want := mixed()
	first := clas.Dusts(tx)
	second := clas.Dusts(tx)
	for i := range first[:cap(first)] {
		first[:cap(first)][i] = -1
	}
	if !slices.Equal(second, want) || !slices.Equal(clas.Dusts(tx), want) {
		t.Error("a result shares memory with another one")
	}
}

// Promise 6.3.
func TestNoCallPanics(t *testing.T) {
	defer func() {
		if fault := recover(); fault != nil {
			t.Errorf("panic: %v", fault)
		}
	}()
	scripts := [][]byte{nil, {}}
	for n := range 90 {
		for _, first := range []byte{0x00, 0x51, 0x6a, 0xff} {
			for _, second := range []byte{0x00, 0x02, 0x14, 0x20, 0xff} {
				script := append([]byte{first, second}, make([]byte, n)...)
				scripts = append(scripts, script[:n:n])
			}
		}
	}
	var outs []api.Out
	for _, script := range append(scripts, make([]byte, 1<<20)) {
		clas.Kind(script)
		for _, v := range []uint64{0, 329, math.MaxUint64} {
			outs = append(outs, api.Out{Value: v, Script: script})
			clas.Dust(outs[len(outs)-1])
		}
	}
	clas.Dusts(api.Tx{})
	clas.Dusts(api.Tx{Outs: outs})
	clas.Dusts(api.Tx{Outs: make([]api.Out, 1<<16)})
	for _, kind := range []int{math.MinInt, -1, 0, 5, 6, math.MaxInt} {
		clas.Least(kind)
	}
}
