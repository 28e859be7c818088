package heaps

// Sort is the things of a list in order.
func Sort[T any](l []T, compare func(a, b T) int) []T {
	h := New(compare)
	h.Push(l...)
	sorted := make([]T, 0, len(l))
	for v := range h.Drain() {
		sorted = append(sorted, v)
	}
	return sorted
}

// Least is the first n things of a list in order.
func Least[T any](l []T, n int, compare func(a, b T) int) []T {
	n = min(n, len(l))
	if n < 1 {
		return nil
	}
	least := make([]T, n)
	for v := range leastBackwards(l, n, compare).Drain() {
		n--
		least[n] = v.thing
	}
	return least
}

// leastBackwards holds the first n things of a list, the last of them first: that one gives way to each that goes ahead of it.
func leastBackwards[T any](l []T, n int, compare func(a, b T) int) *Heap[numbered[T]] {
	h := New(func(a, b numbered[T]) int { return order(compare, b, a) })
	for i, thing := range l {
		v := numbered[T]{thing, i}
		last, _ := h.Peek()
		switch {
		case h.Len() < n:
			h.Push(v)
		case order(compare, v, last) < 0:
			h.Swap(v)
		}
	}
	return h
}
