package txns_test

import (
	"bytes"
	"encoding/binary"
	"math"
	"math/rand"
	"slices"
	"testing"

	"lighterage/api"
	"lighterage/txns"
	"lighterage/wire"
)

// text returns n bytes of which no two neighbours are alike.
func text(n int) []byte {
	b := make([]byte, n)
	for i := range b {
		b[i] = byte(i*7 + n)
	}
	return b
}

// input returns an In in which each byte of Prev, Vout and Seq is another one.
func input(n byte, script []byte, witness ...[]byte) api.In {
	in := api.In{Vout: 0x04030201 + uint32(n), Script: script, Seq: 0xf4f3f2f1 - uint32(n), Witness: witness}
	for i := range in.Prev {
		in.Prev[i] = byte(i) + n
	}
	return in
}

// plain is a transaction without a Witness, and rich is one of several Ins, of which some have a Witness.
func plain() api.Tx {
	return api.Tx{
		Version: 0x14131211,
		Ins:     []api.In{input(1, text(3)), input(2, nil)},
		Outs:    []api.Out{{Value: 0x0807060504030201, Script: text(22)}, {Value: 7}},
		Lock:    0x24232221,
	}
}

func rich() api.Tx {
	t := plain()
	t.Ins = append(t.Ins, input(3, text(253), text(300), nil, text(1)))
	t.Ins[0].Witness = [][]byte{nil}
	return t
}

// big is as large as a valid transaction can be.
func big() api.Tx {
	t := api.Tx{Version: math.MaxUint32, Lock: math.MaxUint32}
	for i := range 50 {
		t.Ins = append(t.Ins, input(byte(i), text(500), slices.Repeat([][]byte{text(500)}, 10)...))
		t.Outs = append(t.Outs, api.Out{Value: math.MaxUint64 - uint64(i), Script: text(500)})
	}
	return t
}

// with returns what turn makes of t.
func with(t api.Tx, turn func(t *api.Tx)) api.Tx {
	turn(&t)
	return t
}

// valid are transactions up to the edges of what is valid.
func valid() map[string]api.Tx {
	one := api.Tx{Ins: make([]api.In, 1), Outs: make([]api.Out, 1)}
	return map[string]api.Tx{
		"plain":               plain(),
		"rich":                rich(),
		"big":                 big(),
		"zeros":               one,
		"50 Ins":              {Ins: slices.Repeat(plain().Ins, 25), Outs: one.Outs},
		"50 Outs":             {Ins: one.Ins, Outs: slices.Repeat(plain().Outs, 25)},
		"Script of an In":     with(plain(), func(t *api.Tx) { t.Ins[1].Script = text(500) }),
		"Script of an Out":    with(plain(), func(t *api.Tx) { t.Outs[1].Script = text(500) }),
		"10 elements":         with(plain(), func(t *api.Tx) { t.Ins[1].Witness = make([][]byte, 10) }),
		"element of 500":      with(plain(), func(t *api.Tx) { t.Ins[1].Witness = [][]byte{text(500)} }),
		"one empty element":   with(plain(), func(t *api.Tx) { t.Ins[0].Witness = [][]byte{{}} }),
		"Script of 252":       with(plain(), func(t *api.Tx) { t.Ins[0].Script = text(252) }),
		"Script of 253":       with(plain(), func(t *api.Tx) { t.Ins[0].Script = text(253) }),
		"the last of Ins":     with(big(), func(t *api.Tx) { bare(t.Ins[:49]) }),
		"all but the last In": with(big(), func(t *api.Tx) { bare(t.Ins[49:]) }),
		"high numbers": {Version: math.MaxUint32, Lock: math.MaxUint32, Outs: []api.Out{{Value: math.MaxUint64}},
			Ins: []api.In{{Vout: math.MaxUint32, Seq: math.MaxUint32, Prev: api.ID(bytes.Repeat([]byte{255}, 32))}}},
		"like a mark": {Version: 0x01000100, Ins: one.Ins, Outs: one.Outs, Lock: 0x01000100},
	}
}

func bare(ins []api.In) {
	for i := range ins {
		ins[i].Witness = nil
	}
}

// invalid are transactions just beyond the edges, each by one fault.
func invalid() map[string]api.Tx {
	return map[string]api.Tx{
		"zero":                     {},
		"no Ins":                   with(plain(), func(t *api.Tx) { t.Ins = nil }),
		"no Outs":                  with(plain(), func(t *api.Tx) { t.Outs = []api.Out{} }),
		"51 Ins":                   with(big(), func(t *api.Tx) { t.Ins = append(t.Ins, input(7, nil)) }),
		"51 Outs":                  with(big(), func(t *api.Tx) { t.Outs = append(t.Outs, api.Out{}) }),
		"300 Ins":                  with(plain(), func(t *api.Tx) { t.Ins = slices.Repeat(t.Ins, 150) }),
		"300 Outs":                 with(plain(), func(t *api.Tx) { t.Outs = slices.Repeat(t.Outs, 150) }),
		"Script of the first In":   with(rich(), func(t *api.Tx) { t.Ins[0].Script = text(501) }),
		"Script of the last In":    with(big(), func(t *api.Tx) { t.Ins[49].Script = text(501) }),
		"Script of the first Out":  with(plain(), func(t *api.Tx) { t.Outs[0].Script = text(501) }),
		"Script of the last Out":   with(big(), func(t *api.Tx) { t.Outs[49].Script = text(70000) }),
		"11 elements":              with(rich(), func(t *api.Tx) { t.Ins[0].Witness = make([][]byte, 11) }),
		"11 elements, the last In": with(big(), func(t *api.Tx) { t.Ins[49].Witness = slices.Repeat([][]byte{text(1)}, 11) }),
		"element of 501":           with(rich(), func(t *api.Tx) { t.Ins[0].Witness = [][]byte{text(501)} }),
		"the last element of 501":  with(big(), func(t *api.Tx) { t.Ins[49].Witness[9] = text(501) }),
	}
}

// form is the encoding, written without package wire. It is the whole one if marks is not nil: these then stand where 0 and 1 belong. It does not ask whether t is valid, so that it makes encodings of what is not, too.
func form(t api.Tx, marks []byte) []byte {
	b := binary.LittleEndian.AppendUint32(nil, t.Version)
	b = append(b, marks...)
	b = number(b, len(t.Ins))
	for _, in := range t.Ins {
		b = append(b, in.Prev[:]...)
		b = binary.LittleEndian.AppendUint32(b, in.Vout)
		b = append(number(b, len(in.Script)), in.Script...)
		b = binary.LittleEndian.AppendUint32(b, in.Seq)
	}
	b = number(b, len(t.Outs))
	for _, out := range t.Outs {
		b = binary.LittleEndian.AppendUint64(b, out.Value)
		b = append(number(b, len(out.Script)), out.Script...)
	}
	for i := 0; i < len(t.Ins) && marks != nil; i++ {
		b = number(b, len(t.Ins[i].Witness))
		for _, element := range t.Ins[i].Witness {
			b = append(number(b, len(element)), element...)
		}
	}
	return binary.LittleEndian.AppendUint32(b, t.Lock)
}

func number(b []byte, n int) []byte {
	switch {
	case n < 253:
		return append(b, byte(n))
	case n < 65536:
		return append(b, 253, byte(n), byte(n>>8))
	}
	return binary.LittleEndian.AppendUint32(append(b, 254), uint32(n))
}

// marks are those that the Bytes of t have.
func marks(t api.Tx) []byte {
	for _, in := range t.Ins {
		if len(in.Witness) > 0 {
			return []byte{0, 1}
		}
	}
	return nil
}

// isZero reports whether t is the zero value but for empty slices.
func isZero(t api.Tx) bool {
	return t.Version == 0 && t.Lock == 0 && len(t.Ins) == 0 && len(t.Outs) == 0
}

// refused reports whether neither Parse nor Read takes b, and both behave as they should then.
func refused(b []byte) bool {
	if t, ok := txns.Parse(b); ok || !isZero(t) {
		return false
	}
	r := wire.Read(b)
	t, ok := txns.Read(r)
	return !ok && isZero(t) && !r.Ok() && !r.End() && len(r.Take(0)) == 0 && r.Small() == 0
}

// Promise 3.1.
func TestMayAtTheEdges(t *testing.T) {
	for name, x := range valid() {
		if !txns.May(x) {
			t.Errorf("%s: not valid", name)
		}
	}
	for name, x := range invalid() {
		if txns.May(x) {
			t.Errorf("%s: valid", name)
		}
	}
	for n := range 120 {
		x := api.Tx{Ins: make([]api.In, n), Outs: make([]api.Out, 1)}
		y := api.Tx{Ins: make([]api.In, 1), Outs: make([]api.Out, n)}
		if want := n >= 1 && n <= 50; txns.May(x) != want || txns.May(y) != want {
			t.Errorf("%d Ins or Outs", n)
		}
		x = with(plain(), func(t *api.Tx) { t.Ins[n%2].Witness = make([][]byte, n) })
		if txns.May(x) != (n <= 10) {
			t.Errorf("%d elements", n)
		}
	}
}

// Promise 3.1: each place of a long Script, and of a long element, counts.
func TestMayLooksAtEachPlace(t *testing.T) {
	for i := range 50 {
		for name, turn := range map[string]func(t *api.Tx){
			"In":       func(t *api.Tx) { t.Ins[i].Script = text(501) },
			"Out":      func(t *api.Tx) { t.Outs[i].Script = text(501) },
			"elements": func(t *api.Tx) { t.Ins[i].Witness = make([][]byte, 11) },
			"element":  func(t *api.Tx) { t.Ins[i].Witness[i%10] = text(501) },
		} {
			if x := with(big(), turn); txns.May(x) || len(txns.Base(x)) != 0 || len(txns.Bytes(x)) != 0 {
				t.Errorf("%s %d", name, i)
			}
		}
	}
}

// Promise 3.1: the encoding of one transaction, written out.
func TestBaseAndBytesWrittenOut(t *testing.T) {
	x := api.Tx{
		Version: 0x04030201,
		Ins: []api.In{
			{Prev: api.ID{0: 9, 31: 8}, Vout: 2, Script: []byte{0xaa, 0xbb}, Seq: 0xfffffffe, Witness: [][]byte{{0xcc}, {}}},
			{Prev: api.ID{5}, Vout: 3, Seq: 4},
		},
		Outs: []api.Out{{Value: 0x0807060504030201, Script: []byte{0x6a}}},
		Lock: 0x14131211,
	}
	base := slices.Concat(
		[]byte{1, 2, 3, 4},
		[]byte{2},
		[]byte{9}, make([]byte, 30), []byte{8}, []byte{2, 0, 0, 0}, []byte{2, 0xaa, 0xbb}, []byte{0xfe, 0xff, 0xff, 0xff},
		[]byte{5}, make([]byte, 31), []byte{3, 0, 0, 0}, []byte{0}, []byte{4, 0, 0, 0},
		[]byte{1},
		[]byte{1, 2, 3, 4, 5, 6, 7, 8}, []byte{1, 0x6a},
	)
	end := []byte{0x11, 0x12, 0x13, 0x14}
	if got := txns.Base(x); !bytes.Equal(got, slices.Concat(base, end)) {
		t.Errorf("Base: %x", got)
	}
	if got := txns.Bytes(x); !bytes.Equal(got, slices.Concat(base[:4], []byte{0, 1}, base[4:], []byte{2, 1, 0xcc, 0}, []byte{0}, end)) {
		t.Errorf("Bytes: %x", got)
	}
}

// Promise 3.1.
func TestBaseAndBytesOfValidOnes(t *testing.T) {
	for name, x := range valid() {
		if got := txns.Base(x); !bytes.Equal(got, form(x, nil)) {
			t.Errorf("%s: Base: %x", name, got)
		}
		if got := txns.Bytes(x); !bytes.Equal(got, form(x, marks(x))) {
			t.Errorf("%s: Bytes: %x", name, got)
		}
	}
}

// Promise 3.1: Base does not hang on the Witnesses, and Bytes is Base if there is none, empty or nil.
func TestBaseLeavesTheWitnessesOut(t *testing.T) {
	for name, x := range valid() {
		without := x
		without.Ins = slices.Clone(x.Ins)
		for i := range without.Ins {
			without.Ins[i].Witness = [][][]byte{nil, {}}[i%2]
		}
		base := txns.Base(x)
		if !bytes.Equal(base, txns.Base(without)) || !bytes.Equal(base, txns.Bytes(without)) {
			t.Errorf("%s: Base", name)
		}
		if bytes.Equal(base, txns.Bytes(x)) != (marks(x) == nil) {
			t.Errorf("%s: Bytes", name)
		}
	}
}

// Promise 3.1.
func TestNoBytesOfInvalidOnes(t *testing.T) {
	for name, x := range invalid() {
		if base, all := txns.Base(x), txns.Bytes(x); len(base) != 0 || len(all) != 0 {
			t.Errorf("%s: %x, %x", name, base, all)
		}
	}
}

// Promise 3.2.
func TestParseOfBytes(t *testing.T) {
	for name, x := range valid() {
		b := txns.Bytes(x)
		if got, ok := txns.Parse(b); !ok || !txns.Same(got, x) || !bytes.Equal(form(got, marks(got)), b) {
			t.Errorf("%s: %t, %v", name, ok, got)
		}
	}
}

// Promise 3.2: no byte may be missing, and Parse has none left.
func TestParseOfOtherLengths(t *testing.T) {
	for name, x := range valid() {
		b := form(x, marks(x))
		step := 1 + len(b)/500
		for n := 0; n < len(b); n += step {
			if !refused(b[:n]) {
				t.Errorf("%s: the first %d bytes", name, n)
			}
		}
		for _, more := range [][]byte{{0}, {1}, {255}, b} {
			if got, ok := txns.Parse(slices.Concat(b, more)); ok || !isZero(got) {
				t.Errorf("%s: and %d bytes more", name, len(more))
			}
		}
	}
}

// Promise 3.2: the Reader stands behind the transaction, whatever comes there.
func TestReadStandsBehind(t *testing.T) {
	for name, x := range valid() {
		for _, more := range [][]byte{nil, {0}, {0, 1}, {255, 255}, text(400)} {
			r := wire.Read(slices.Concat([]byte("in front"), form(x, marks(x)), more))
			r.Take(8)
			got, ok := txns.Read(r)
			if !ok || !txns.Same(got, x) || !r.Ok() || r.End() != (len(more) == 0) {
				t.Errorf("%s: %t, %v", name, ok, got)
			}
			if !bytes.Equal(r.Take(len(more)), more) || !r.End() {
				t.Errorf("%s: not behind it", name)
			}
		}
	}
}

// Promise 3.2: transactions one behind the other, and then none.
func TestReadOfSeveral(t *testing.T) {
	list := []api.Tx{plain(), rich(), {Ins: make([]api.In, 1), Outs: make([]api.Out, 1)}, rich(), plain()}
	var b []byte
	for _, x := range list {
		b = append(b, txns.Bytes(x)...)
	}
	r := wire.Read(b)
	for i, x := range list {
		if got, ok := txns.Read(r); !ok || !txns.Same(got, x) {
			t.Errorf("transaction %d: %t, %v", i, ok, got)
		}
	}
	if !r.End() {
		t.Error("not at the end")
	}
	if got, ok := txns.Read(r); ok || !isZero(got) || r.Ok() {
		t.Errorf("behind the end: %v", got)
	}
	if got, ok := txns.Read(r); ok || !isZero(got) || r.Ok() {
		t.Errorf("of a Reader that is not Ok: %v", got)
	}
}

// Promise 3.2: of a Reader that is not Ok nothing is read, even if the bytes would do for it.
func TestReadBehindAFault(t *testing.T) {
	r := wire.Read(txns.Bytes(plain()))
	r.Take(-1)
	if got, ok := txns.Read(r); ok || !isZero(got) || r.Ok() {
		t.Errorf("%v", got)
	}
}

// Promise 3.2: what would be the bytes of a transaction that is not valid is refused.
func TestParseOfInvalidOnes(t *testing.T) {
	if !refused(nil) || !refused([]byte{}) {
		t.Error("no bytes")
	}
	for name, x := range invalid() {
		for _, m := range [][]byte{marks(x), {0, 1}} {
			if !refused(form(x, m)) {
				t.Errorf("%s, marks %v", name, m)
			}
		}
	}
}

// Promises 3.2 and 3.3: the marks stand there exactly if there is a Witness, and they are 0 and 1.
func TestParseOfOtherMarks(t *testing.T) {
	for name, x := range valid() {
		if b := form(x, []byte{0, 1}); refused(b) != (marks(x) == nil) {
			t.Errorf("%s: 0 and 1", name)
		}
		for _, m := range [][]byte{{0}, {0, 0}, {0, 2}, {0, 3}, {0, 252}, {0, 255}, {0, 0, 1}, {0, 1, 0}, {0, 1, 0, 1}, {0, 253, 1, 0}, {0, 254, 1, 0, 0, 0}, {253, 0, 0, 1}, {254, 0, 0, 0, 0, 1}} {
			if b := form(x, m); !refused(b) {
				t.Errorf("%s: %v", name, m)
			}
		}
	}
}

// Promises 3.2 and 3.3: a longer encoding of a number, in whatever place, is none.
func TestParseOfLongerNumbers(t *testing.T) {
	x := api.Tx{
		Ins:  []api.In{{Script: []byte{7}, Witness: [][]byte{{7, 7}}}},
		Outs: []api.Out{{Script: []byte{7, 7, 7}}},
	}
	b := txns.Bytes(x)
	places := map[string]int{"Ins": 6, "Script of the In": 43, "Outs": 49, "Script of the Out": 58, "elements": 62, "element": 63}
	for name, i := range places {
		n := b[i]
		for _, long := range [][]byte{{253, n, 0}, {254, n, 0, 0, 0}, {255, n, 0, 0, 0, 0, 0, 0, 0}} {
			if !refused(slices.Concat(b[:i], long, b[i+1:])) {
				t.Errorf("%s: %v for %d", name, long, n)
			}
		}
	}
	if !bytes.Equal([]byte{b[6], b[43], b[49], b[58], b[62], b[63]}, []byte{1, 1, 1, 3, 1, 2}) {
		t.Errorf("the places are others: %x", b)
	}
}

// Promise 3.2: each field counts.
func TestSameLooksAtEachField(t *testing.T) {
	for name, turn := range map[string]func(t *api.Tx){
		"Version":        func(t *api.Tx) { t.Version++ },
		"Lock":           func(t *api.Tx) { t.Lock += 1 << 31 },
		"Prev, first":    func(t *api.Tx) { t.Ins[0].Prev[0]++ },
		"Prev, last":     func(t *api.Tx) { t.Ins[2].Prev[31]++ },
		"Vout":           func(t *api.Tx) { t.Ins[1].Vout++ },
		"Script":         func(t *api.Tx) { t.Ins[2].Script[252]++ },
		"Script, more":   func(t *api.Tx) { t.Ins[1].Script = []byte{0} },
		"Seq":            func(t *api.Tx) { t.Ins[2].Seq-- },
		"element":        func(t *api.Tx) { t.Ins[2].Witness[2][0]++ },
		"element, more":  func(t *api.Tx) { t.Ins[2].Witness[1] = []byte{0} },
		"elements, more": func(t *api.Tx) { t.Ins[2].Witness = append(t.Ins[2].Witness, nil) },
		"elements, less": func(t *api.Tx) { t.Ins[0].Witness = nil },
		"Value":          func(t *api.Tx) { t.Outs[1].Value += 1 << 63 },
		"Out":            func(t *api.Tx) { t.Outs[0].Script[21]++ },
		"Out, less":      func(t *api.Tx) { t.Outs[0].Script = t.Outs[0].Script[:21] },
		"Ins, less":      func(t *api.Tx) { t.Ins = t.Ins[:2] },
		"Ins, more":      func(t *api.Tx) { t.Ins = append(t.Ins, api.In{}) },
		"Ins, none":      func(t *api.Tx) { t.Ins = nil },
		"Ins, order":     func(t *api.Tx) { t.Ins[0], t.Ins[1] = t.Ins[1], t.Ins[0] },
		"Outs, less":     func(t *api.Tx) { t.Outs = t.Outs[:1] },
		"Outs, more":     func(t *api.Tx) { t.Outs = append(t.Outs, api.Out{}) },
		"Outs, order":    func(t *api.Tx) { t.Outs[0], t.Outs[1] = t.Outs[1], t.Outs[0] },
	} {
		if x := with(rich(), turn); txns.Same(x, rich()) || txns.Same(rich(), x) || !txns.Same(x, with(rich(), turn)) {
			t.Errorf("%s", name)
		}
	}
}

// Promise 3.2 and Rule 1: nil is the same as empty, valid or not.
func TestSameOfNilAndEmpty(t *testing.T) {
	empty := api.Tx{
		Ins:  []api.In{{Script: []byte{}, Witness: [][]byte{}}, {Witness: [][]byte{{}, nil}}},
		Outs: []api.Out{{Script: []byte{}}},
	}
	none := api.Tx{Ins: []api.In{{}, {Witness: [][]byte{nil, {}}}}, Outs: []api.Out{{}}}
	if !txns.Same(empty, none) || !txns.Same(none, empty) {
		t.Error("places that are empty")
	}
	if !txns.Same(api.Tx{}, api.Tx{Ins: []api.In{}, Outs: []api.Out{}}) || txns.Same(api.Tx{}, none) {
		t.Error("no places")
	}
	for name, x := range invalid() {
		if !txns.Same(x, invalid()[name]) {
			t.Errorf("%s: not the same as itself", name)
		}
		for other, y := range valid() {
			if txns.Same(x, y) || txns.Same(y, x) {
				t.Errorf("%s: the same as %s", name, other)
			}
		}
	}
}

// Promise 3.3: different transactions have different Bytes.
func TestDifferentOnesHaveDifferentBytes(t *testing.T) {
	seen := map[string]string{}
	for name, x := range valid() {
		b := string(txns.Bytes(x))
		if other, in := seen[b]; in {
			t.Errorf("%s and %s", name, other)
		}
		seen[b] = name
		for range 2 {
			if string(txns.Bytes(x)) != b {
				t.Errorf("%s: other Bytes than before", name)
			}
		}
	}
}

// Promise 3.3: whatever is read at all has no other encoding than what it was read from. Each byte of some encodings is changed to that end.
func TestOneEncoding(t *testing.T) {
	for name, x := range valid() {
		b := txns.Bytes(x)
		if len(b) > 2000 {
			continue
		}
		for i := range b {
			old := b[i]
			for _, change := range []byte{1, 2, 3, 50, 127, 128, 252, 253, 254, 255} {
				b[i] = old + change
				got, ok := txns.Parse(b)
				if ok && (!bytes.Equal(form(got, marks(got)), b) || !bytes.Equal(txns.Bytes(got), b) || txns.Same(got, x)) {
					t.Errorf("%s: byte %d, %d instead of %d", name, i, b[i], old)
				}
			}
			b[i] = old
		}
	}
}

// Promises 3.3 and 3.4: the same for bytes of all kinds, which are the same in each run.
func TestReadOfAnyBytes(t *testing.T) {
	next := rand.New(rand.NewSource(1))
	likely := []byte{0, 0, 0, 0, 1, 1, 1, 2, 3, 50, 51, 252, 253, 254, 255}
	taken := 0
	for range 60000 {
		b := make([]byte, next.Intn(140))
		for i := range b {
			b[i] = likely[next.Intn(len(likely))]
		}
		if len(b) > 12 && next.Intn(2) == 0 { // so that some are read
			b[4], b[5], b[6] = 0, 1, 1
		}
		r := wire.Read(b)
		x, ok := txns.Read(r)
		if ok != r.Ok() || !ok && !isZero(x) {
			t.Fatalf("%x: %t, %v", b, ok, x)
		}
		if !ok {
			continue
		}
		taken++
		if all := txns.Bytes(x); !bytes.HasPrefix(b, all) || !bytes.Equal(r.Take(len(b)-len(all)), b[len(all):]) || !r.End() {
			t.Fatalf("%x: %v", b, x)
		}
	}
	if taken == 0 {
		t.Error("none was read")
	}
}

// roomy returns a transaction like rich whose slices all have spare capacity, filled with something.
func roomy() api.Tx {
	t := rich()
	for i := range t.Ins {
		t.Ins[i].Script = room(t.Ins[i].Script, 9)
		t.Ins[i].Witness = room(t.Ins[i].Witness, []byte{9})
		for k := range t.Ins[i].Witness {
			t.Ins[i].Witness[k] = room(t.Ins[i].Witness[k], 9)
		}
	}
	for i := range t.Outs {
		t.Outs[i].Script = room(t.Outs[i].Script, 9)
	}
	t.Ins, t.Outs = room(t.Ins, input(9, nil)), room(t.Outs, api.Out{Value: 9})
	return t
}

func room[E any](l []E, fill E) []E {
	return append(slices.Clone(l), slices.Repeat([]E{fill}, 9)...)[:len(l)]
}

// whole returns t with all its slices up to their capacity.
func whole(t api.Tx) api.Tx {
	t.Ins, t.Outs = slices.Clone(t.Ins[:cap(t.Ins)]), slices.Clone(t.Outs[:cap(t.Outs)])
	for i, in := range t.Ins {
		t.Ins[i].Script = in.Script[:cap(in.Script)]
		t.Ins[i].Witness = slices.Clone(in.Witness[:cap(in.Witness)])
		for k, element := range t.Ins[i].Witness {
			t.Ins[i].Witness[k] = element[:cap(element)]
		}
	}
	for i, out := range t.Outs {
		t.Outs[i].Script = out.Script[:cap(out.Script)]
	}
	return t
}

// Promises 3.1 and 3.2 and Rule 3: a transaction that is an argument stays as it is, with the room behind its slices, and what is returned is nobody else's.
func TestArgumentsStay(t *testing.T) {
	x, before := roomy(), form(whole(roomy()), []byte{0, 1})
	for name, call := range map[string]func() []byte{
		"Bytes": func() []byte { return txns.Bytes(x) },
		"Base":  func() []byte { return txns.Base(x) },
		"May":   func() []byte { txns.May(x); return nil },
		"Same":  func() []byte { txns.Same(x, rich()); txns.Same(rich(), x); return nil },
	} {
		got, again := call(), call()
		want := bytes.Clone(again)
		got = got[:cap(got)]
		for i := range got {
			got[i] = 0xee
		}
		if !bytes.Equal(form(whole(x), []byte{0, 1}), before) {
			t.Errorf("%s: changed its argument", name)
		}
		if !bytes.Equal(again, want) || !bytes.Equal(call(), want) {
			t.Errorf("%s: shared its result", name)
		}
	}
}

// slicesOf are all slices of bytes in t.
func slicesOf(t api.Tx) [][]byte {
	var list [][]byte
	for _, in := range t.Ins {
		list = append(append(list, in.Script), in.Witness...)
	}
	for _, out := range t.Outs {
		list = append(list, out.Script)
	}
	return list
}

// Promise 3.2 and Rule 3: Parse leaves b and the room behind it, keeps nothing of them, and no two slices of its result share memory.
func TestParseSharesNoMemory(t *testing.T) {
	for name, x := range valid() {
		all := append(form(x, marks(x)), bytes.Repeat([]byte{7}, 100)...)
		before := bytes.Clone(all)
		b := all[:len(all)-100]
		first, _ := txns.Parse(b)
		second, _ := txns.Parse(b)
		if !bytes.Equal(all, before) {
			t.Fatalf("%s: changed its argument", name)
		}
		clear(all)
		list := slicesOf(whole(first))
		for i, one := range list {
			for k := range one {
				one[k] = byte(i)
			}
		}
		for i, one := range list {
			if !bytes.Equal(one, bytes.Repeat([]byte{byte(i)}, len(one))) {
				t.Fatalf("%s: slice %d is shared with another one", name, i)
			}
		}
		for i := range first.Ins {
			elements := first.Ins[i].Witness[:cap(first.Ins[i].Witness)]
			for k := range elements {
				elements[k] = []byte{byte(i), 99}
			}
		}
		for i, in := range first.Ins {
			for _, element := range in.Witness {
				if !bytes.Equal(element, []byte{byte(i), 99}) {
					t.Fatalf("%s: Witness %d is shared with another one", name, i)
				}
			}
		}
		if !txns.Same(second, x) {
			t.Errorf("%s: keeps its argument, or shares with another result", name)
		}
	}
}

// Promise 3.4: no transaction, valid or not, makes a call panic.
func TestNoCallPanics(t *testing.T) {
	defer func() {
		if x := recover(); x != nil {
			t.Errorf("panic: %v", x)
		}
	}()
	list := []api.Tx{
		{Ins: make([]api.In, 100000), Outs: make([]api.Out, 100000)},
		{Ins: []api.In{{Script: make([]byte, 1<<20), Witness: make([][]byte, 1<<16)}}, Outs: []api.Out{{Script: make([]byte, 1<<20)}}},
		{Ins: []api.In{{}}},
		{Outs: []api.Out{{}}},
	}
	for _, x := range valid() {
		list = append(list, x)
	}
	for _, x := range invalid() {
		list = append(list, x)
	}
	for _, x := range list {
		if !txns.May(x) && len(txns.Bytes(x))+len(txns.Base(x)) != 0 {
			t.Error("bytes of one that is not valid")
		}
		for _, y := range list {
			txns.Same(x, y)
		}
		for _, m := range [][]byte{nil, {0, 1}, {0}, {255}} {
			b := form(x, m)
			txns.Parse(b)
			txns.Parse(b[len(b)/2:])
			r := wire.Read(b)
			for range 3 {
				txns.Read(r)
			}
		}
	}
	for first := range 256 {
		for n := range 70 {
			b := bytes.Repeat([]byte{byte(first)}, n)
			txns.Parse(b)
			txns.Parse(slices.Concat([]byte{2, 0, 0, 0, 0, 1}, b))
		}
	}
}
