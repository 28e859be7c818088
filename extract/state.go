package extract

import (
	"slices"

	"witness/api"
	"witness/digest"
	"witness/node"
)

// state is where a walk stands: at a tower of which some kids are still to be looked at, or at a value that it has come to.
type state interface {
	text() []byte
	behind() []state // those whose texts follow its own, in their order
}

// textsOf are the texts of the walk from a head on, in a map with that many keys. What is still to come stands in a list, and not in calls within calls: a walk may be as deep as a map has keys.
func textsOf(count uint64, head state) [][]byte {
	texts := [][]byte{node.RootText(count, digest.Of(head.text()))}
	left := []state{head} // the next one is the last
	for len(left) > 0 {
		last := len(left) - 1
		next := left[last]
		left = left[:last]
		texts = append(texts, next.text())
		for _, s := range slices.Backward(next.behind()) {
			left = append(left, s)
		}
	}
	return texts
}

// value is where a walk ends that has come to a key of its span.
type value []byte

func (v value) text() []byte { return slices.Concat([]byte{api.KindValue}, v) }

func (v value) behind() []state { return nil }
