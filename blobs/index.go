package blobs

import (
	"bytes"
	"cmp"
	"iter"
	"slices"

	"witness/api"
)

// Where is a blob's frame.
func (b *Blobs) Where(a api.Addr) (api.Place, bool) {
	place, there := b.index[a]
	return place, there
}

// Len is how many blobs there are.
func (b *Blobs) Len() int { return len(b.index) }

// Each gives all addresses and places, in the order of addresses.
func (b *Blobs) Each() iter.Seq2[api.Addr, api.Place] {
	return func(yield func(api.Addr, api.Place) bool) {
		for _, a := range b.sorted() {
			place, there := b.index[a] // asked at its own step: it may have been forgotten since
			if there && !yield(a, place) {
				return
			}
		}
	}
}

// sorted are all addresses, in their order.
func (b *Blobs) sorted() []api.Addr {
	addrs := make([]api.Addr, 0, len(b.index))
	for a := range b.index {
		addrs = append(addrs, a)
	}
	slices.SortFunc(addrs, compare)
	return addrs
}

func compare(a, b api.Addr) int {
	return cmp.Or(bytes.Compare(a.Sum[:], b.Sum[:]), cmp.Compare(a.Nth, b.Nth))
}

// set gives an address its place.
func (b *Blobs) set(a api.Addr, p api.Place) {
	b.note(a)
	b.index[a] = p
}

// forget takes out the addresses of which gone tells so; how many these were.
func (b *Blobs) forget(gone func(a api.Addr, p api.Place) bool) int {
	count := 0
	for a, place := range b.index {
		if gone(a, place) {
			b.note(a)
			delete(b.index, a)
			count++
		}
	}
	return count
}
