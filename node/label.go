package node

import (
	"slices"

	"witness/api"
	"witness/digest"
)

// Own is the label of a tower without neighbours.
func Own(t api.Tower) api.Sum {
	return labelOf(t, func(api.Kid) bool { return false })
}

// Below is a tower's label with the neighbours below a level alone.
func Below(t api.Tower, level int) api.Sum {
	return labelOf(t, func(k api.Kid) bool { return k.Level < level })
}

// Label is a tower's label.
func Label(t api.Tower) api.Sum {
	return labelOf(t, func(api.Kid) bool { return true })
}

// labelOf is a tower's label with those kids alone that taken tells.
func labelOf(t api.Tower, taken func(k api.Kid) bool) api.Sum {
	text := LeafText(t.Key, t.Value.Sum)
	switch {
	case t.Head:
		text = HeadText()
		fallthrough
	default:
		label := digest.Of(text)
		for _, k := range slices.Backward(t.Kids) {
			if taken(k) {
				label = joined(k, label)
			}
		}
		return label
	}
}

// joined is a tower's label with a kid, of which below is the label without it and all that are higher.
func joined(k api.Kid, below api.Sum) api.Sum { return digest.Of(PairText(k, below)) }

// Count is how many keys hang at a tower, its own among them.
func Count(t api.Tower) uint64 {
	count := ownCount(t)
	for _, k := range t.Kids {
		count += k.Count
	}
	return count
}

// ownCount is 1; but the head is no key.
func ownCount(t api.Tower) uint64 {
	if t.Head {
		return 0
	}
	return 1
}
