package vault_test

import (
	"fmt"
	"testing"

	"witness/api"
	"witness/compact"
	"witness/disk"
)

// TestRetain: windows that can be and that cannot; what is gone stays gone.
func TestRetain(t *testing.T) {
	p := newPair(t, 60, 1024, 5)
	for i := range 6 {
		p.both("16.2: Begin", answers.Begin) // one on each version
		p.commits(edit(fmt.Sprint(i%4), fmt.Sprint(i)))
	}
	for _, window := range []int{0, -1, 65, 66, 1 << 62, -1 << 62} {
		p.says("16.10: Retain of a window that cannot be", refused(api.ErrWindow), func(a answers) string { return a.Retain(window) })
		p.alike("behind a window that cannot be")
	}
	for _, window := range []int{5, 64, 3, 3, 4, 2, 64, 1, 1, 2, 64} {
		p.says("16.10: Retain", "nil", func(a answers) string { return a.Retain(window) })
		p.alike(fmt.Sprint("Retain of ", window))
		p.commits(edit("q", fmt.Sprint(window)))
		p.alike(fmt.Sprint("a commit behind Retain of ", window))
	}
	p.says("16.12: Retain makes no version", "17", func(a answers) string { return fmt.Sprint(len(p.m.maps) - 1) })
}

// TestStaleByRetain: sessions whose base is gone are stale, the others are not.
func TestStaleByRetain(t *testing.T) {
	p := newPair(t, 20, 1024, 5)
	for i := range 4 {
		p.both("16.2: Begin", answers.Begin)
		p.both("16.4: Put", func(a answers) string { return a.Put(p.m.begun, "own", fmt.Sprint(i)) })
		p.commits(edit("a", fmt.Sprint(i)))
	}
	p.both("16.10: Retain", func(a answers) string { return a.Retain(2) })
	p.says("16.10: a session on version 0", at(0, api.ErrStale), func(a answers) string { return a.Get(1, "own") })
	p.says("16.10: a session on version 2", at(2, api.ErrStale), func(a answers) string { return a.Commit(5) })
	p.says("16.10: a session on version 3", `"3" true`, func(a answers) string { return a.Get(7, "own") })
	p.both("16.10: Retain", func(a answers) string { return a.Retain(64) })
	p.says("16.10: what is stale stays so", at(2, api.ErrStale), func(a answers) string { return a.Get(5, "own") })
	p.says("16.6: Commit", "5", func(a answers) string { return a.Commit(7) })
	p.says("16.7: Sessions", "[1 3 5]", answers.Sessions)
	p.alike("behind all of this")
}

// TestRetainIsKeep: what it writes is what catalog.Keep writes, where a store is full too.
func TestRetainIsKeep(t *testing.T) {
	d, v := store(t, 16, 1024, 3)
	for i := range 4 {
		commits(t, v, edit("a", fmt.Sprint(i)))
	}
	for i, d := range []*disk.Disk{d, filled(t)} {
		for _, window := range []int{0, 1, 2, 3, 64, 65} {
			x, c := d.Copy(), catalogOf(t, d)
			e := c.Keep(window)
			is(t, fmt.Sprint("16.10: Retain of ", window, " on disk ", i), asked{open(t, x)}.Retain(window), told(none(e)))
			is(t, "16.10: the disk", whatDiskHas(x), whatDiskHas(c.Blobs().Log().Disk()))
		}
	}
}

// filled is a disk of five segments, full of versions of which one is kept.
func filled(t *testing.T) *disk.Disk {
	t.Helper()
	d, v := store(t, 5, 1024, 1)
	for i := 0; ; i++ {
		n := edited(t, v, edit(fmt.Sprint(i%3), letters(fmt.Sprint(i%10), 60)))
		if _, err := v.Commit(n); err != nil {
			is(t, "16.6: Commit", told(err), refused(api.ErrFull))
			return d
		}
	}
}

// TestCompact: it is compact.Run, in what it answers and in what it writes; it changes no answer.
func TestCompact(t *testing.T) {
	_, p := full(t)
	is(t, "16.10: Compact", p.v.Compact(), refused(api.ErrVictim))
	p.alike("behind ErrVictim")
	d := filled(t)
	v := open(t, d)
	a := asked{v}
	begun(t, v)
	must(t, "16.4: Put", v.Put(1, []byte("0"), []byte("own")))
	told := everything(a, []int{1}, 30)
	met := map[string]int{}
	for range 9 {
		c := catalogOf(t, d)
		n, e := compact.Run(c)
		got := a.Compact()
		is(t, "16.10: Compact", got, numberOr(n, none(e)))
		is(t, "16.10: the disk", whatDiskHas(d), whatDiskHas(c.Blobs().Log().Disk()))
		is(t, "16.10: all answers", everything(a, []int{1}, 30), told)
		is(t, "16.10: all answers, opened again", everything(asked{open(t, d)}, nil, 30)[len("[]"):], everything(a, nil, 30)[len("[1]"):])
		met[got]++
		if got == refused(api.ErrVictim) {
			break
		}
	}
	if len(met) < 2 || met[refused(api.ErrVictim)] != 1 {
		t.Errorf("16.10: Compact answers %v", met)
	}
	is(t, "16.6: Commit behind it", a.Commit(1), fmt.Sprint(catalogOf(t, filled(t)).Latest().Number+1))
}

// crowded is a disk on which there are victims, but no room to move what is live in any of them.
func crowded(t *testing.T) *disk.Disk {
	t.Helper()
	for seed := uint64(18); seed < 60; seed++ {
		r := noise(seed)
		window := 4 + r.IntN(6)
		d, v := store(t, 5+r.IntN(4), 1024, window)
		for range 40 {
			n := edited(t, v, edit(fmt.Sprint(r.IntN(9)), letters(fmt.Sprint(r.IntN(10)), 100+r.IntN(400))))
			v.Commit(n)
			v.Abort(n)
			if _, e := compact.Run(catalogOf(t, d)); e == api.ErrFull {
				return d
			}
		}
	}
	t.Fatal("no disk is crowded")
	return nil
}

// TestCompactFull: with ErrFull nothing has changed.
func TestCompactFull(t *testing.T) {
	d := crowded(t)
	v := open(t, d)
	a := asked{v}
	begun(t, v)
	must(t, "16.4: Put", v.Put(1, []byte("a"), []byte("own")))
	was, holds := everything(a, []int{1}, 9), whatHolds(t, d)
	for range 3 {
		is(t, "16.10: Compact", a.Compact(), refused(api.ErrFull))
		is(t, "16.10: all answers", everything(a, []int{1}, 9), was)
		is(t, "16.10: the store", whatHolds(t, d), holds)
	}
}

// TestMakingRoom: a store whose window is narrow can be written again and again, if room is made.
func TestMakingRoom(t *testing.T) {
	p := newPair(t, 40, 1024, 1)
	made := 0
	for i := range 90 {
		p.both("16.2: Begin", answers.Begin)
		n := p.m.begun
		p.both("16.4: Put", func(a answers) string { return a.Put(n, fmt.Sprint(i%3), letters(fmt.Sprint(i%10), 50)) })
		got := p.v.Commit(n)
		for tries := 0; got == refused(api.ErrFull) && tries < 5; tries++ {
			made++
			p.v.Compact()
			got = p.v.Commit(n)
		}
		is(t, "16.6: Commit", got, p.m.Commit(n))
		p.both("16.8: Each", func(a answers) string { return a.Each(uint64(p.m.newest()), all) })
	}
	p.alike("in the end")
	if made < 2 {
		t.Errorf("16.10: room was made %d times", made)
	}
}
