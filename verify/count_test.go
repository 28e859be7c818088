package verify_test

import (
	"fmt"
	"testing"

	"witness/api"
)

const last = uint64(1) << 62 // the greatest count

// stays are ops that stay ahead of the keys of byLevel, from a level down, each with that count.
func stays(most int, count uint64) []api.Op {
	var ops []api.Op
	for level := most - 1; level >= 0; level-- {
		o := kid(api.OpStay, byLevel[level])
		o.Count = count
		ops = append(ops, o)
	}
	return append(ops, head)
}

// TestCountsAreTrueNumbers: a sum that a uint64 does not hold is more than any count.
func TestCountsAreTrueNumbers(t *testing.T) {
	ahead := span("A", "B")
	for kids := range 25 {
		for _, count := range []uint64{0, 1, 2, 1 << 61, last - 1, last} {
			for _, whole := range []uint64{0, 1, 2, 3, 23, 24, 25, 48, 1 << 61, last - 1, last} {
				want := api.OK
				if count > 0 && uint64(kids) > whole/count {
					want = api.ErrCount
				}
				proof := proofBytes(whole, stays(kids, count)...)
				if e := holds(t, fmt.Sprintf("%d times %d of %d", kids, count, whole), none, ahead, proof); e != want {
					t.Fatalf("11.1: %d times %d of %d: the model says %d, want %d", kids, count, whole, e, want)
				}
			}
		}
	}
}

// TestCountsOfStaysAndEntries are told together, and no others.
func TestCountsOfStaysAndEntries(t *testing.T) {
	n := &noise{x: 50}
	for _, m := range []map[string]string{garden(), fan(false), chain(9), n.chance(14)} {
		p := planOf(m)
		for _, s := range some(n, spansOf(bounds(m)), 40) {
			ops := p.ops(s)
			least := uint64(0)
			for _, o := range ops {
				switch o.Kind {
				case api.OpStay:
					least += o.Count
				case api.OpIn:
					least++
				}
			}
			for i := range ops {
				if o := &ops[i]; o.Kind == api.OpRight || o.Kind == api.OpBoth {
					o.Count = []uint64{0, 1, last}[n.below(3)] // whatever it is, it tells nothing of the rank
				}
			}
			for _, count := range []uint64{least, least + 1, last} {
				root, a, e := rightly(s, proofBytes(count, ops...))
				answers(t, "the model of a count that is enough", e, api.OK)
				if a.Rank != count-least {
					t.Errorf("the model has the rank %d of %d keys, %d of which do not lie ahead", a.Rank, count, least)
				}
				takes(t, "a count that is enough", root, s, proofBytes(count, ops...), a)
			}
			if least > 0 {
				refuses(t, "a count that is one too low", p.root, s, proofBytes(least-1, ops...), api.ErrCount)
				refuses(t, "the count 0", none, s, proofBytes(0, ops...), api.ErrCount)
			}
		}
	}
}

// TestCountBehindTheEnd: that ops are left is told ahead of the counts, and these ahead of the label.
func TestCountBehindTheEnd(t *testing.T) {
	ahead := span("A", "B")
	ops := stays(6, last)
	for _, root := range []api.Sum{none, {}} {
		refuses(t, "too many keys", root, ahead, proofBytes(last, ops...), api.ErrCount)
		refuses(t, "too many keys, and an op is left", root, ahead, proofBytes(last, append(ops, head)...), api.ErrEnds)
		refuses(t, "too many keys, and no op comes", root, ahead, proofBytes(last, ops[:6]...), api.ErrEnds)
		refuses(t, "too many keys, and an op that cannot be", root, ahead, proofBytes(last, append(ops[:6:6], in)...), api.ErrOp)
	}
}
