package compact_test

import (
	"crypto/sha256"
	"slices"
	"testing"

	"witness/api"
	"witness/catalog"
)

// What the three calls have to answer and to do, by the chapter's words a second time. Here one goes from the frames to the addresses, and shares are compared without dividing.

// sumOf is a blob's digest.
func sumOf(kind byte, body string) api.Sum { return sha256.Sum256(append([]byte{kind}, body...)) }

// liveFrames are the addresses of a segment's live frames, in their order, and how many bytes these have.
func liveFrames(c *catalog.Catalog, seg int) ([]api.Addr, int) {
	live, _ := c.Live()
	var l []api.Addr
	n := 0
	for place, f := range c.Blobs().Log().Frames(seg) {
		if f.Kind > 4 || len(f.Body) == 0 {
			continue
		}
		a := api.Addr{Sum: sumOf(f.Kind, string(f.Body[1:])), Nth: f.Body[0]}
		if at, there := c.Blobs().Where(a); there && at == place && slices.Contains(live, a) {
			l = append(l, a)
			n += place.Len
		}
	}
	return l, n
}

func modelUsage(c *catalog.Catalog) ([]api.Usage, api.Errno) {
	if _, e := c.Live(); e != api.OK {
		return nil, e
	}
	var l []api.Usage
	for seg, m := range c.Blobs().Log().Tail().Marks {
		u := api.Usage{Seg: seg, Used: m.Used}
		if m.Serial != 0 {
			_, u.Live = liveFrames(c, seg)
			u.Fill = float64(u.Live) / float64(u.Used)
		}
		l = append(l, u)
	}
	return l, api.OK
}

func modelVictims(c *catalog.Catalog) ([]int, api.Errno) {
	l, e := modelUsage(c)
	if e != api.OK {
		return nil, e
	}
	l = slices.DeleteFunc(l, func(u api.Usage) bool {
		return u.Used == 0 || u.Seg == c.Blobs().Log().Tail().Current || u.Live > u.Used-u.Live
	})
	slices.SortStableFunc(l, func(a, b api.Usage) int { return a.Live*b.Used - b.Live*a.Used })
	var segs []int
	for _, u := range l {
		segs = append(segs, u.Seg)
	}
	return segs, api.OK
}

// modelTry is a try with some victims.
func modelTry(c *catalog.Catalog, victims []int) api.Errno {
	b := c.Blobs()
	live, e := c.Live()
	if e != api.OK {
		return e
	}
	var moves [][]api.Addr
	for _, seg := range victims {
		l, _ := liveFrames(c, seg)
		moves = append(moves, l)
	}
	if e := b.Begin(); e != api.OK {
		return e
	}
	b.Keep(live)
	for i, seg := range victims {
		for _, a := range moves[i] {
			if e := b.Move(a); e != api.OK {
				b.Undo()
				return e
			}
		}
		if _, e := b.Drop(seg); e != api.OK {
			b.Undo()
			return e
		}
	}
	return c.Commit()
}

func modelRun(c *catalog.Catalog) (int, api.Errno) {
	defer c.Blobs().Log().Reserve(1)
	if c.Dead() {
		return 0, api.ErrDead
	}
	victims, e := modelVictims(c)
	if e != api.OK {
		return 0, e
	}
	if len(victims) == 0 {
		return 0, api.ErrVictim
	}
	c.Blobs().Log().Reserve(0)
	for len(victims) > 0 {
		if e = modelTry(c, victims); e == api.OK {
			return len(victims), api.OK
		}
		if e != api.ErrFull {
			return 0, e
		}
		victims = victims[:len(victims)/2]
	}
	return 0, api.ErrFull
}

// TestModel: the model itself, against what a layout was laid as.
func TestModel(t *testing.T) {
	l := layout{whole: 1024, versions: 1, free: 2, segs: [][]int{{100, -200, 300}, {-50}, {200, -184}, {200, -183}}}
	_, c := l.open(t)
	u, e := modelUsage(c)
	must(t, "15.1: the model", e)
	for seg, want := range []api.Usage{{Used: 616, Live: 400}, {Used: 66}, {Used: 400, Live: 200}, {Used: 399, Live: 200}} {
		if u[seg].Used != want.Used || u[seg].Live != want.Live {
			t.Errorf("15.1: the model: %+v", u[seg])
		}
	}
	if v, _ := modelVictims(c); !slices.Equal(v, []int{1, 2}) {
		t.Errorf("15.2: the model: %v", v)
	}
}
