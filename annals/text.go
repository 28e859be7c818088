package annals

import (
	"slices"

	"witness/api"
	"witness/digest"
)

// LeafText is the text whose digest is a leaf's label.
func LeafText(l api.Leaf) []byte {
	text := []byte{api.TagAnnal}
	for shift := 56; shift >= 0; shift -= 8 {
		text = append(text, byte(l.Version>>shift))
	}
	return append(text, l.Label[:]...)
}

// ForkText is the text whose digest is a fork's label.
func ForkText(left, right api.Sum) []byte {
	return slices.Concat([]byte{api.TagFork}, left[:], right[:])
}

func leafLabel(l api.Leaf) api.Sum { return digest.Of(LeafText(l)) }

func forkLabel(left, right api.Sum) api.Sum { return digest.Of(ForkText(left, right)) }

// noLeaves is the label over no leaf.
func noLeaves() api.Sum { return digest.Of([]byte{api.TagAnnal}) }
