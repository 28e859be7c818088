package heaps

import (
	"iter"
	"slices"
)

// side is a list that is held at its front.
type side[T any] struct {
	next  func() (T, bool)
	leave func()
}

// Merge is the things of lists that are in order, as one; of equal things those of the earlier list first.
func Merge[T any](compare func(a, b T) int, lists ...iter.Seq[T]) iter.Seq[T] {
	lists = slices.Clone(lists) // who changes the list of lists later changes nothing here
	return func(yield func(T) bool) {
		sides := sidesOf(lists)
		defer leaveAll(sides) // deferred: the loop's body may panic
		fronts := frontsOf(sides, compare)
		for {
			first, ok := fronts.Peek()
			if !ok || !yield(first.thing) {
				return
			}
			// Only now is somebody asking for what stands behind it.
			if v, ok := sides[first.number].next(); ok {
				fronts.Swap(numbered[T]{v, first.number})
			} else {
				fronts.Pop()
			}
		}
	}
}

func sidesOf[T any](lists []iter.Seq[T]) []side[T] {
	var sides []side[T]
	for _, list := range lists {
		if list != nil {
			next, leave := iter.Pull(list)
			sides = append(sides, side[T]{next, leave})
		}
	}
	return sides
}

func leaveAll[T any](sides []side[T]) {
	for _, s := range sides {
		s.leave()
	}
}

// frontsOf asks each side for its first thing; a front's number is that of its side.
func frontsOf[T any](sides []side[T], compare func(a, b T) int) *Heap[numbered[T]] {
	fronts := New(func(a, b numbered[T]) int { return order(compare, a, b) })
	for i, s := range sides {
		if v, ok := s.next(); ok {
			fronts.Push(numbered[T]{v, i})
		}
	}
	return fronts
}
