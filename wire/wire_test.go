package wire_test

import (
	"bytes"
	"encoding/binary"
	"math"
	"testing"

	"lighterage/wire"
)

// counts are numbers around the edges of the three encodings of Count, and what these are.
var counts = []struct {
	n    int
	want []byte
}{
	{0, []byte{0}},
	{1, []byte{1}},
	{251, []byte{251}},
	{252, []byte{252}},
	{253, []byte{253, 253, 0}},
	{254, []byte{253, 254, 0}},
	{255, []byte{253, 255, 0}},
	{256, []byte{253, 0, 1}},
	{0x1234, []byte{253, 0x34, 0x12}},
	{65534, []byte{253, 254, 255}},
	{65535, []byte{253, 255, 255}},
	{65536, []byte{254, 0, 0, 1, 0}},
	{0x12345678, []byte{254, 0x78, 0x56, 0x34, 0x12}},
	{math.MaxInt32, []byte{254, 255, 255, 255, 127}},
	{math.MaxInt32 + 1, []byte{254, 0, 0, 0, 128}},
	{math.MaxUint32 - 1, []byte{254, 254, 255, 255, 255}},
	{math.MaxUint32, []byte{254, 255, 255, 255, 255}},
}

// writers are the three calls that write, each with a number whose encoding is the longest.
var writers = map[string]func(b []byte) []byte{
	"Small": func(b []byte) []byte { return wire.Small(b, 0x01020304) },
	"Big":   func(b []byte) []byte { return wire.Big(b, 0x0102030405060708) },
	"Count": func(b []byte) []byte { return wire.Count(b, 0x01020304) },
}

// readers are the calls that read, with arguments for which a Reader of no bytes must fail, and what they read as a number (of Take: how many bytes).
var readers = map[string]func(r *wire.Reader) uint64{
	"Small":     func(r *wire.Reader) uint64 { return uint64(r.Small()) },
	"Big":       func(r *wire.Reader) uint64 { return r.Big() },
	"Count":     func(r *wire.Reader) uint64 { return uint64(r.Count(math.MaxInt)) },
	"Take of 1": func(r *wire.Reader) uint64 { return uint64(len(r.Take(1))) },
}

// broken reports whether r is not Ok, and all its calls, Take of no bytes among them, read nothing and leave it so.
func broken(r *wire.Reader) bool {
	for range 2 {
		if r.Ok() || r.End() {
			return false
		}
		for _, read := range readers {
			if read(r) != 0 {
				return false
			}
		}
		if len(r.Take(0)) != 0 {
			return false
		}
	}
	return true
}

// Promise 2.1.
func TestSmallAndBigWriteTheLeastByteFirst(t *testing.T) {
	for _, n := range []uint32{0, 1, 255, 256, 0x01020304, 0xfffefdfc, math.MaxInt32 + 1, math.MaxUint32} {
		want := binary.LittleEndian.AppendUint32([]byte("before"), n)
		if got := wire.Small([]byte("before"), n); !bytes.Equal(got, want) {
			t.Errorf("Small of %x: %x", n, got)
		}
	}
	for _, n := range []uint64{0, 1, 255, 1 << 32, 0x0102030405060708, 0xfffefdfcfbfaf9f8, math.MaxInt64 + 1, math.MaxUint64} {
		want := binary.LittleEndian.AppendUint64([]byte("before"), n)
		if got := wire.Big([]byte("before"), n); !bytes.Equal(got, want) {
			t.Errorf("Big of %x: %x", n, got)
		}
	}
}

// Promise 2.1.
func TestCountWritesTheShortestEncoding(t *testing.T) {
	for _, c := range counts {
		if got := wire.Count([]byte("before"), c.n); !bytes.Equal(got, append([]byte("before"), c.want...)) {
			t.Errorf("Count of %d: %x", c.n, got)
		}
	}
}

// Promise 2.1: a number outside the range stands for the nearest one in it.
func TestCountClamps(t *testing.T) {
	for _, n := range []int{-1, -253, -65536, math.MinInt32, math.MinInt} {
		if got := wire.Count(nil, n); !bytes.Equal(got, []byte{0}) {
			t.Errorf("Count of %d: %x", n, got)
		}
	}
	for _, n := range []int{math.MaxUint32 + 1, math.MaxUint32 + 6, 1 << 40, math.MaxInt} {
		if got := wire.Count(nil, n); !bytes.Equal(got, []byte{254, 255, 255, 255, 255}) {
			t.Errorf("Count of %d: %x", n, got)
		}
	}
}

// Promise 2.1 and Rule 3: neither b nor the room behind it changes.
func TestWritersLeaveTheirArgument(t *testing.T) {
	for name, write := range writers {
		for n := range 20 {
			all := bytes.Repeat([]byte{170}, n+20)
			got := write(all[:n])
			if !bytes.Equal(all, bytes.Repeat([]byte{170}, n+20)) {
				t.Errorf("%s behind %d bytes: changed: %x", name, n, all)
			}
			if !bytes.Equal(got[:n], all[:n]) {
				t.Errorf("%s behind %d bytes: %x", name, n, got)
			}
		}
	}
}

// Promise 2.1 and Rule 3: what is written is new memory, including its spare capacity.
func TestWritersReturnNewMemory(t *testing.T) {
	for name, write := range writers {
		b := make([]byte, 3, 60)
		first, second := write(b), write(b)
		want := bytes.Clone(second)
		for _, other := range [][]byte{b, first} {
			other = other[:cap(other)]
			for i := range other {
				other[i] = 9
			}
		}
		if !bytes.Equal(second, want) {
			t.Errorf("%s: shared: %x", name, second)
		}
	}
}

// Promise 2.1 and Rule 1: nil is no bytes, to write behind and to read.
func TestNilIsNoBytes(t *testing.T) {
	for name, write := range writers {
		if got, want := write(nil), write([]byte{}); !bytes.Equal(got, want) || len(got) == 0 {
			t.Errorf("%s: %x, %x", name, got, want)
		}
	}
	for _, b := range [][]byte{nil, {}, make([]byte, 0, 9), []byte("abc")[3:]} {
		r := wire.Read(b)
		if !r.Ok() || !r.End() || len(r.Take(0)) != 0 || !r.Ok() || !r.End() {
			t.Errorf("capacity %d: not at its end", cap(b))
		}
		for name, read := range readers {
			if r := wire.Read(b); read(r) != 0 || !broken(r) {
				t.Errorf("capacity %d: %s reads", cap(b), name)
			}
		}
	}
}

// Promise 2.1.
func TestReaderReadsWhatComesNext(t *testing.T) {
	r := wire.Read([]byte{4, 3, 2, 0xf1, 8, 7, 6, 5, 4, 3, 2, 0xf1, 252, 253, 0, 1, 'a', 'b', 'c', 254, 1, 2, 3, 0xf4, 'd'})
	if got := r.Small(); got != 0xf1020304 {
		t.Errorf("Small: %x", got)
	}
	if got := r.Big(); got != 0xf102030405060708 {
		t.Errorf("Big: %x", got)
	}
	if a, b := r.Count(252), r.Count(256); a != 252 || b != 256 {
		t.Errorf("Count: %d, %d", a, b)
	}
	if a, b := r.Take(2), r.Take(1); string(a) != "ab" || string(b) != "c" {
		t.Errorf("Take: %q, %q", a, b)
	}
	if got := r.Count(math.MaxInt); got != 0xf4030201 {
		t.Errorf("Count of four bytes: %x", got)
	}
	if !r.Ok() || r.End() {
		t.Error("one byte before the end")
	}
	if got := r.Take(1); string(got) != "d" || !r.Ok() || !r.End() {
		t.Errorf("the last byte: %q", got)
	}
	if r.Take(1); !broken(r) {
		t.Error("behind the end")
	}
}

// Promise 2.1: a number is read only if it is there with all its bytes.
func TestReaderNeedsEveryByte(t *testing.T) {
	for n := range 12 {
		b := bytes.Repeat([]byte{7}, n)
		if r := wire.Read(b); n < 4 && (r.Small() != 0 || !broken(r)) || n >= 4 && (r.Small() != 0x07070707 || !r.Ok() || r.End() != (n == 4)) {
			t.Errorf("Small of %d bytes", n)
		}
		if r := wire.Read(b); n < 8 && (r.Big() != 0 || !broken(r)) || n >= 8 && (r.Big() != 0x0707070707070707 || !r.Ok() || r.End() != (n == 8)) {
			t.Errorf("Big of %d bytes", n)
		}
	}
	for _, c := range counts {
		for n := range len(c.want) {
			if r := wire.Read(c.want[:n]); r.Count(math.MaxInt) != 0 || !broken(r) {
				t.Errorf("Count of %x", c.want[:n])
			}
		}
	}
}

// Promise 2.1: the number may be most itself, and no more.
func TestReaderCountKeepsToMost(t *testing.T) {
	for _, c := range counts {
		for _, most := range []int{c.n, c.n + 1, math.MaxUint32, math.MaxUint32 + 1, math.MaxInt} {
			if r := wire.Read(c.want); r.Count(most) != c.n || !r.End() {
				t.Errorf("%d, at most %d", c.n, most)
			}
		}
		for _, most := range []int{c.n - 1, c.n / 2, -1, -1 - c.n, math.MinInt32, math.MinInt} {
			if most == c.n { // the half of 0
				continue
			}
			if r := wire.Read(c.want); r.Count(most) != 0 || !broken(r) {
				t.Errorf("%d, at most %d", c.n, most)
			}
		}
	}
}

// Promise 2.1: a longer encoding of a number than the shortest one is none, nor is one that begins with 255.
func TestReaderCountWantsTheShortestEncoding(t *testing.T) {
	for _, b := range [][]byte{
		{253, 0, 0},
		{253, 1, 0},
		{253, 252, 0},
		{254, 0, 0, 0, 0},
		{254, 252, 0, 0, 0},
		{254, 253, 0, 0, 0},
		{254, 255, 255, 0, 0},
		{255},
		{255, 0, 0, 0, 0, 0, 0, 0, 0},
		{255, 0, 0, 0, 0, 1, 0, 0, 0},
		{255, 255, 255, 255, 255, 255, 255, 255, 255},
	} {
		if r := wire.Read(append(b, "further"...)); r.Count(math.MaxInt) != 0 || !broken(r) {
			t.Errorf("%x", b)
		}
	}
}

// Promise 2.1.
func TestTakeOfEachLength(t *testing.T) {
	for n := range 6 {
		for _, take := range []int{0, 1, 2, 3, 4, 5, 6, 7, math.MaxInt32, math.MaxInt} {
			in := []byte("abcde")[:n]
			r := wire.Read(in)
			got := r.Take(take)
			if take > n {
				if len(got) != 0 || !broken(r) {
					t.Errorf("%d of %d bytes: %q", take, n, got)
				}
				continue
			}
			if string(got) != string(in[:take]) || !r.Ok() || r.End() != (take == n) {
				t.Errorf("%d of %d bytes: %q", take, n, got)
			}
		}
		for _, take := range []int{-1, -n, -n - 1, math.MinInt32, math.MinInt} {
			if take == 0 {
				continue
			}
			if r := wire.Read([]byte("abcde")[:n]); len(r.Take(take)) != 0 || !broken(r) {
				t.Errorf("%d of %d bytes", take, n)
			}
		}
	}
}

// Promise 2.1: whatever could not be read, nothing is read from then on, even if the bytes would do for it.
func TestNothingIsReadBehindAFault(t *testing.T) {
	for i, fault := range []func(r *wire.Reader) bool{
		func(r *wire.Reader) bool { return len(r.Take(-1)) == 0 },
		func(r *wire.Reader) bool { return len(r.Take(41)) == 0 },
		func(r *wire.Reader) bool { return r.Count(-1) == 0 },
		func(r *wire.Reader) bool { return r.Count(0) == 0 },
		func(r *wire.Reader) bool { return len(r.Take(1)) == 1 && r.Count(999) == 0 },
		func(r *wire.Reader) bool { return len(r.Take(37)) == 37 && r.Small() == 0 },
		func(r *wire.Reader) bool { return len(r.Take(33)) == 33 && r.Big() == 0 },
	} {
		b := bytes.Repeat([]byte{1}, 40)
		b[1] = 255
		r := wire.Read(b)
		if !fault(r) || !broken(r) {
			t.Errorf("fault %d", i)
		}
	}
}

// Promise 2.1 and Rule 3: a Reader keeps nothing of b, and what Take returns is nobody else's.
func TestReaderSharesNoMemory(t *testing.T) {
	all := []byte("abcdefgh")
	r := wire.Read(all[:4])
	copy(all, "xxxxxxxx")
	first := r.Take(2)
	if string(first) != "ab" {
		t.Errorf("first: %q", first)
	}
	first = first[:cap(first)]
	for i := range first {
		first[i] = 'y'
	}
	if string(all) != "xxxxxxxx" {
		t.Errorf("argument: %q", all)
	}
	if second := r.Take(2); string(second) != "cd" || !r.End() {
		t.Errorf("second: %q", second)
	}
}

// Promise 2.2: what is written is read back as it was, up to the end, each time the same.
func TestWhatIsWrittenIsReadBack(t *testing.T) {
	for range 2 {
		var b []byte
		for _, c := range counts {
			b = wire.Big(wire.Small(wire.Count(b, c.n), uint32(c.n)), uint64(c.n)*0x100000001)
			b = append(b, "text"...)
		}
		r := wire.Read(b)
		for _, c := range counts {
			if r.End() {
				t.Fatalf("%d: nothing left", c.n)
			}
			if r.Count(c.n) != c.n || r.Small() != uint32(c.n) || r.Big() != uint64(c.n)*0x100000001 || string(r.Take(4)) != "text" {
				t.Errorf("%d: not as written", c.n)
			}
		}
		if !r.Ok() || !r.End() {
			t.Error("not at the end")
		}
	}
}

// Promise 2.2: a number has one encoding; so what Count reads at all is what Count writes.
func TestEachNumberHasOneEncoding(t *testing.T) {
	for first := range 256 {
		for _, rest := range []string{"", "\x00", "\x00\x00", "\xfc\x00", "\xfd\x00", "\xff\xff", "\x00\x00\x00\x00", "\xff\xff\x00\x00", "\x00\x00\x01\x00", "\xff\xff\xff\xff", "\x01\x00\x00\x00\x00\x00\x00\x00"} {
			b := append([]byte{byte(first)}, rest...)
			r := wire.Read(b)
			n := r.Count(math.MaxInt)
			if !r.Ok() {
				continue
			}
			again := wire.Count(nil, n)
			if !bytes.HasPrefix(b, again) || len(r.Take(len(b)-len(again))) != len(b)-len(again) || !r.End() {
				t.Errorf("%x: read as %d, written as %x", b, n, again)
			}
		}
	}
}

// Promise 2.2: two Readers of the same bytes do not hang on each other.
func TestReadersStandAlone(t *testing.T) {
	b := []byte{1, 0, 0, 0, 2, 0, 0, 0}
	one, other := wire.Read(b), wire.Read(b)
	if one.Small() != 1 || len(other.Take(99)) != 0 {
		t.Error("the first calls")
	}
	if !broken(other) || one.Small() != 2 || !one.End() {
		t.Error("not alone")
	}
}

// Promise 2.3: no number and no length makes a call panic.
func TestNoCallPanics(t *testing.T) {
	defer func() {
		if x := recover(); x != nil {
			t.Errorf("panic: %v", x)
		}
	}()
	numbers := []int{math.MinInt, math.MinInt32, -1, 0, 1, 4, 5, 252, 253, 65536, math.MaxInt32, math.MaxUint32, math.MaxUint32 + 1, math.MaxInt - 1, math.MaxInt}
	for first := range 256 {
		for n := range 12 {
			b := bytes.Repeat([]byte{byte(first)}, n)
			for _, x := range numbers {
				wire.Small(wire.Big(wire.Count(b, x), uint64(x)), uint32(x))
				r := wire.Read(b)
				for range 3 {
					r.Count(x)
					r.Take(x)
					r.Small()
					r.Big()
					r.Ok()
					r.End()
				}
			}
		}
	}
}
