package txns

import (
	"lighterage/api"
	"lighterage/wire"
)

// encode is for valid transactions. With whole it writes the Witnesses, too.
func encode(t api.Tx, whole bool) []byte {
	b := addSmall(nil, t.Version)
	if whole {
		b = append(b, noIns, mark)
	}
	b = addCount(b, len(t.Ins))
	for _, in := range t.Ins {
		b = addIn(b, in)
	}
	b = addCount(b, len(t.Outs))
	for _, out := range t.Outs {
		b = addOut(b, out)
	}
	if whole {
		for _, in := range t.Ins {
			b = addWitness(b, in.Witness)
		}
	}
	return addSmall(b, t.Lock)
}

func addIn(b []byte, in api.In) []byte {
	b = append(b, in.Prev[:]...)
	b = addSmall(b, in.Vout)
	b = addText(b, in.Script)
	return addSmall(b, in.Seq)
}

func addOut(b []byte, out api.Out) []byte {
	b = addBig(b, out.Value)
	return addText(b, out.Script)
}

func addWitness(b []byte, witness [][]byte) []byte {
	b = addCount(b, len(witness))
	for _, element := range witness {
		b = addText(b, element)
	}
	return b
}

func addText(b, text []byte) []byte {
	return append(addCount(b, len(text)), text...)
}

// The calls of wire copy what stands before a number, so each number is encoded by itself: otherwise the time would grow with the square of the size.

func addSmall(b []byte, n uint32) []byte {
	return append(b, wire.Small(nil, n)...)
}

func addBig(b []byte, n uint64) []byte {
	return append(b, wire.Big(nil, n)...)
}

func addCount(b []byte, n int) []byte {
	return append(b, wire.Count(nil, n)...)
}
