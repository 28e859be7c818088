package heaps

import (
	"runtime"
	"testing"
	"weak"
)

// gone tells whether nothing holds on to a thing any more.
func gone(p weak.Pointer[[64]int]) bool {
	for range 5 {
		runtime.GC()
		if p.Value() == nil {
			return true
		}
	}
	return false
}

func newThing() (*[64]int, weak.Pointer[[64]int]) {
	p := new([64]int)
	return p, weak.Make(p)
}

func TestWhatHasLeftIsNotKept(t *testing.T) {
	for name, take := range map[string]func(h *Heap[*[64]int]){
		"Pop":  func(h *Heap[*[64]int]) { h.Pop() },
		"Swap": func(h *Heap[*[64]int]) { h.Swap(new([64]int)) },
		"Drain": func(h *Heap[*[64]int]) {
			for range h.Drain() {
				break
			}
		},
	} {
		for others := range 5 {
			h := New[*[64]int](nil)
			first, watch := newThing()
			h.Push(first)
			for range others {
				h.Push(new([64]int))
			}
			first = nil
			take(h)
			if !gone(watch) {
				t.Errorf("%s out of %d keeps what has left", name, others+1)
			}
			runtime.KeepAlive(h)
		}
	}
}

// What stays in the spare room would be kept, too.
func TestSpareRoom(t *testing.T) {
	h := New[int](func(a, b int) int { return a - b })
	for i := range 1000 {
		h.Push(i + 1)
	}
	for h.Len() > 0 {
		h.Pop()
		for _, v := range h.things[len(h.things):cap(h.things)] {
			if v != (numbered[int]{}) {
				t.Fatalf("the spare room of a heap of %d keeps %v", h.Len(), v)
			}
		}
		if spare := cap(h.things); spare > 4*h.Len()+8 {
			t.Fatalf("a heap of %d has room for %d", h.Len(), spare)
		}
	}
}
