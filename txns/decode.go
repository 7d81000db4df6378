package txns

import (
	"lighterage/api"
	"lighterage/wire"
)

// decode reports whether what it read is the encoding of the transaction that it returns. A Reader that is not Ok reads zeros, so it is enough to ask it at the end.
func decode(r *wire.Reader) (api.Tx, bool) {
	t := api.Tx{Version: r.Small()}
	ins := r.Count(mostPlaces)
	whole := ins == noIns
	if whole {
		if r.Count(mark) != mark {
			return api.Tx{}, false
		}
		ins = r.Count(mostPlaces)
	}
	for range ins {
		t.Ins = append(t.Ins, nextIn(r))
	}
	for range r.Count(mostPlaces) {
		t.Outs = append(t.Outs, nextOut(r))
	}
	if whole {
		for i := range t.Ins {
			t.Ins[i].Witness = nextWitness(r)
		}
	}
	t.Lock = r.Small()
	return t, r.Ok() && May(t) && witnessed(t) == whole
}

func nextIn(r *wire.Reader) api.In {
	var in api.In
	copy(in.Prev[:], r.Take(len(in.Prev)))
	in.Vout = r.Small()
	in.Script = nextText(r)
	in.Seq = r.Small()
	return in
}

func nextOut(r *wire.Reader) api.Out {
	var out api.Out
	out.Value = r.Big()
	out.Script = nextText(r)
	return out
}

func nextWitness(r *wire.Reader) [][]byte {
	var witness [][]byte
	for range r.Count(mostElements) {
		witness = append(witness, nextText(r))
	}
	return witness
}

func nextText(r *wire.Reader) []byte {
	return r.Take(r.Count(mostBytes))
}
