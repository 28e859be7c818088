package verify

import (
	"witness/api"
	"witness/codec"
	"witness/digest"
)

// begun is a text of which the first byte alone stands.
func begun(tag byte) *codec.Writer {
	w := &codec.Writer{}
	w.Byte(tag)
	return w
}

// layKey lays down a key; its length is a word, and not a number as in records.
func layKey(w *codec.Writer, key []byte) {
	w.Word(uint32(len(key)))
	w.Raw(key)
}

// heightOf is a key's: from 1 to MaxHeight.
func heightOf(key []byte) int {
	sum := digest.Of([]byte{api.TagHeight}, key)
	return min(1+digest.Zeros(sum), api.MaxHeight)
}

func valueSum(value []byte) api.Sum { return digest.Of([]byte{api.KindValue}, value) }

func headLabel() api.Sum { return digest.Of([]byte{api.TagHead}) }

func leafLabel(key []byte, value api.Sum) api.Sum {
	w := begun(api.TagLeaf)
	layKey(w, key)
	w.Sum(value)
	return digest.Of(w.Bytes())
}

// pairLabel is that of a tower up to a level with the kid there of which an op tells.
func pairLabel(op *api.Op, below, kid api.Sum) api.Sum {
	w := begun(api.TagPair)
	w.Byte(byte(op.Level))
	w.Long(op.Count)
	layKey(w, op.Key)
	w.Sum(below)
	w.Sum(kid)
	return digest.Of(w.Bytes())
}

func rootLabel(count uint64, head api.Sum) api.Sum {
	w := begun(api.TagRoot)
	w.Long(count)
	w.Sum(head)
	return digest.Of(w.Bytes())
}
