package blobs_test

import (
	"slices"
	"strings"
	"testing"

	"witness/api"
)

// TestMoveAndDrop is the chapter's examples 4 and 5.
func TestMoveAndDrop(t *testing.T) {
	_, l, b := fresh(t)
	a := put(t, b, 1, "x")
	put(t, b, 2, "x")
	put(t, b, 1, "")
	answers(t, "6.6", b.Move(a), api.OK)
	others := []item{{addr(2, "x"), at(0, 31, 15)}, {addr(1, ""), at(0, 46, 14)}}
	has(t, "6.6", b, append(others, item{a, at(0, 60, 15)})...)
	gets(t, "6.6", b, 1, a, "x")
	if f, e := l.Read(at(0, 16, 15)); e != api.OK || string(f.Body) != "\x00x" {
		t.Errorf("6.6: the old frame is %v, %d", f, e)
	}
	unchanged(t, "6.7: the current segment", b, func() {
		if n, e := b.Drop(0); n != 0 || e != api.ErrSeg {
			t.Errorf("6.7: Drop of the current segment = %d, %d", n, e)
		}
	})
	answers(t, "5.3", l.Next(), api.OK)
	answers(t, "6.6", b.Move(a), api.OK)
	has(t, "6.6", b, append(others, item{a, at(1, 16, 15)})...)
	if n, e := b.Drop(0); n != 2 || e != api.OK {
		t.Errorf("6.7: Drop = %d, %d", n, e)
	}
	has(t, "6.7", b, item{a, at(1, 16, 15)})
	gets(t, "6.7", b, 1, a, "x")
	absent(t, "6.7", b, addr(2, "x"))
	absent(t, "6.7", b, addr(1, ""))
	if tail := l.Tail(); tail.Marks[0] != (api.Mark{}) || !tail.Held[0] {
		t.Errorf("6.7: the log is at %v", tail)
	}
	puts(t, "6.3: what was dropped is new again", b, 2, "x", addr(2, "x"))
	lies(t, "6.3", b, addr(2, "x"), at(1, 31, 15))
}

func TestMoveOfNothing(t *testing.T) {
	d, _, b := fresh(t)
	a := put(t, b, 1, "x")
	for _, none := range []api.Addr{{}, {Sum: a.Sum, Nth: 1}, {Sum: a.Sum, Nth: 255}, addr(2, "x")} {
		unchanged(t, "6.6", b, func() { answers(t, "6.6: it is not there", b.Move(none), api.ErrNone) })
	}
	off(t, d)
	answers(t, "6.6: it is not there, and the power is gone", b.Move(addr(2, "x")), api.ErrNone)
}

// TestMoveAtEachError: with each of them nothing has changed.
func TestMoveAtEachError(t *testing.T) {
	d, l, b := fresh(t)
	a, c := put(t, b, 1, "x"), put(t, b, 4, "y")
	turn(t, d, 0, 20)
	unchanged(t, "6.6: a damaged frame", b, func() { answers(t, "6.6: a damaged frame", b.Move(a), api.ErrCheck) })
	unchanged(t, "6.6: another one", b, func() {
		answers(t, "6.8", b.Begin(), api.OK)
		writes := d.Stats().Writes
		answers(t, "6.6", b.Move(a), api.ErrCheck)
		if d.Stats().Writes != writes {
			t.Error("6.6: a damaged frame was written anew")
		}
		answers(t, "6.8", b.Undo(), api.OK)
	})
	answers(t, "6.6", b.Move(c), api.OK)
	gets(t, "6.6", b, 4, c, "y")
	turn(t, d, 0, 20)
	for l.Next() == api.OK {
	}
	put(t, b, 2, strings.Repeat("z", 980))
	unchanged(t, "6.6: no room", b, func() { answers(t, "6.6: no room", b.Move(a), api.ErrFull) })
	off(t, d)
	unchanged(t, "6.6: no power", b, func() { answers(t, "6.6: no power", b.Move(a), api.ErrPower) })
	on(d)
	gets(t, "6.6", b, 1, a, "x")

	l = logOf(t, newDisk(t), last-1)
	b = open(t, l)
	put(t, b, 1, strings.Repeat("z", 980))
	unchanged(t, "6.6: no serial is left", b, func() {
		answers(t, "6.6: no serial is left", b.Move(addr(1, strings.Repeat("z", 980))), api.ErrLast)
	})
}

// TestDrop of each segment there can be, with blobs and without.
func TestDrop(t *testing.T) {
	_, l, b := fresh(t)
	for seg := range 4 {
		answers(t, "5.3", l.Next(), api.OK)
		for i := range seg {
			put(t, b, 1, string(rune('a'+10*seg+i)))
		}
	}
	all := each(b)
	for _, seg := range []int{-1, 3, 4, 6, 7, 1000000} {
		unchanged(t, "6.7", b, func() {
			if n, e := b.Drop(seg); n != 0 || e != api.ErrSeg {
				t.Errorf("6.7: Drop(%d) = %d, %d", seg, n, e)
			}
		})
	}
	for _, seg := range []int{0, 2, 1} {
		if n, e := b.Drop(seg); n != seg || e != api.OK {
			t.Errorf("6.7: Drop(%d) = %d, %d", seg, n, e)
		}
		all = slices.DeleteFunc(all, func(i item) bool { return i.place.Seg == seg })
		has(t, "6.7", b, all...)
		if n, e := b.Drop(seg); n != 0 || e != api.ErrSeg {
			t.Errorf("6.7: Drop(%d) again = %d, %d", seg, n, e)
		}
	}
	if b.Len() != 3 {
		t.Errorf("6.7: %d are left of the current segment", b.Len())
	}
}

// TestDropNeedsNoDisk: neither power nor whole frames.
func TestDropNeedsNoDisk(t *testing.T) {
	d, l, b := fresh(t)
	put(t, b, 1, "x")
	put(t, b, 1, "y")
	answers(t, "5.3", l.Next(), api.OK)
	kept := put(t, b, 1, "z")
	turn(t, d, 0, 20)
	off(t, d)
	if n, e := b.Drop(0); n != 2 || e != api.OK {
		t.Errorf("6.7: Drop = %d, %d", n, e)
	}
	has(t, "6.7", b, item{kept, at(1, 16, 15)})
	if n := b.Keep(nil); n != 1 {
		t.Errorf("6.7: Keep = %d", n)
	}
	has(t, "6.7", b)
}

// TestKeep is the chapter's example 10.
func TestKeep(t *testing.T) {
	d, l, b := fresh(t)
	a, c, empty := put(t, b, 1, "x"), put(t, b, 2, "x"), put(t, b, 1, "")
	tail, writes := l.Tail(), d.Stats().Writes
	if n := b.Keep([]api.Addr{a, addr(3, "none"), a, {Nth: 3}, {Sum: c.Sum, Nth: 1}}); n != 2 {
		t.Errorf("6.7: Keep = %d", n)
	}
	has(t, "6.7", b, item{a, at(0, 16, 15)})
	for _, gone := range []api.Addr{c, empty, addr(3, "none"), {Nth: 3}} {
		absent(t, "6.7", b, gone)
	}
	if now := l.Tail(); now.Marks[0] != tail.Marks[0] || d.Stats().Writes != writes {
		t.Errorf("6.7: Keep has written: the log is at %v", now)
	}
	if n := b.Keep([]api.Addr{a}); n != 0 {
		t.Errorf("6.7: Keep of all = %d", n)
	}
	has(t, "6.2: a log that is opened anew finds it again", open(t, anew(t, l)),
		item{a, at(0, 16, 15)}, item{c, at(0, 31, 15)}, item{empty, at(0, 46, 14)})
	lacks(t, "6.7", b, 2, "x")
	puts(t, "6.3: what was forgotten gets its address anew", b, 2, "x", c)
	lies(t, "6.3: in a new frame", b, c, at(0, 60, 15))
	has(t, "6.12", open(t, anew(t, l)), item{a, at(0, 16, 15)}, item{c, at(0, 60, 15)}, item{empty, at(0, 46, 14)})
	if n := b.Keep(nil); n != 2 {
		t.Errorf("6.7: Keep of nothing = %d", n)
	}
	has(t, "6.7", b)
	if n := b.Keep([]api.Addr{a, c}); n != 0 || b.Len() != 0 {
		t.Errorf("6.7: what is not there stays so: %d, %d", n, b.Len())
	}
}

// TestChange is the chapter's example 6.
func TestChange(t *testing.T) {
	_, l, b := fresh(t)
	a := put(t, b, 1, "x")
	tail := l.Tail()
	answers(t, "6.8", b.Begin(), api.OK)
	unchanged(t, "6.8", b, func() { answers(t, "6.8: one has begun", b.Begin(), api.ErrOpen) })
	puts(t, "6.3", b, 1, "y", addr(1, "y"))
	finds(t, "6.8: within the change", b, 1, "y", addr(1, "y"))
	answers(t, "6.8", b.Undo(), api.OK)
	lacks(t, "6.8", b, 1, "y")
	has(t, "6.8", b, item{a, at(0, 16, 15)})
	if now := l.Tail(); !slices.Equal(now.Marks, tail.Marks) || now.Serial != tail.Serial {
		t.Errorf("6.8: the log is at %v, and was at %v", now, tail)
	}
	unchanged(t, "6.8", b, func() {
		answers(t, "6.8: none has begun", b.Undo(), api.ErrOpen)
		answers(t, "6.8: none has begun", b.End(), api.ErrOpen)
	})
	answers(t, "6.8", b.Begin(), api.OK)
	puts(t, "6.3", b, 1, "y", addr(1, "y"))
	answers(t, "6.8", b.End(), api.OK)
	has(t, "6.8", b, item{a, at(0, 16, 15)}, item{addr(1, "y"), at(0, 31, 15)})
	answers(t, "6.8: it has ended", b.End(), api.ErrOpen)
	answers(t, "6.8: it has ended", b.Undo(), api.ErrOpen)
	has(t, "6.8", b, item{a, at(0, 16, 15)}, item{addr(1, "y"), at(0, 31, 15)})
}

// TestUndoOfEach thing that can be done, and of several on one address.
func TestUndoOfEach(t *testing.T) {
	x, y := addr(1, "x"), addr(2, "y")
	for name, change := range map[string]func(f *fixture){
		"nothing":             func(f *fixture) {},
		"Put":                 func(f *fixture) { f.b.Put(1, []byte("new")) },
		"Put of what is":      func(f *fixture) { f.b.Put(1, []byte("x")) },
		"Put into a segment":  func(f *fixture) { f.b.Put(1, make([]byte, 994)) },
		"Move":                func(f *fixture) { f.b.Move(x) },
		"Move twice":          func(f *fixture) { f.b.Move(x); f.b.Move(x) },
		"Drop":                func(f *fixture) { f.b.Drop(0) },
		"Move and Drop":       func(f *fixture) { f.b.Move(x); f.b.Drop(0) },
		"Drop and Put":        func(f *fixture) { f.b.Drop(0); f.b.Put(1, []byte("x")) },
		"Keep":                func(f *fixture) { f.b.Keep([]api.Addr{y}) },
		"Keep of none":        func(f *fixture) { f.b.Keep(nil) },
		"Keep and Put":        func(f *fixture) { f.b.Keep(nil); f.b.Put(1, []byte("x")); f.b.Put(2, []byte("y")) },
		"Put and Keep":        func(f *fixture) { f.b.Put(1, []byte("new")); f.b.Keep(nil) },
		"Put, Keep and Put":   func(f *fixture) { f.b.Put(1, []byte("new")); f.b.Keep(nil); f.b.Put(1, []byte("new")) },
		"Put, Next and Drop":  func(f *fixture) { f.b.Put(1, []byte("new")); f.b.Log().Next(); f.b.Drop(1) },
		"Move, Next and Drop": func(f *fixture) { f.b.Move(x); f.b.Log().Next(); f.b.Drop(1); f.b.Drop(0) },
		"all":                 func(f *fixture) { f.b.Put(3, nil); f.b.Move(x); f.b.Move(y); f.b.Drop(0); f.b.Keep([]api.Addr{x}) },
	} {
		f := newFixture(t)
		before := f.all()
		answers(t, "6.8", f.b.Begin(), api.OK)
		change(f)
		answers(t, "6.8", f.b.Undo(), api.OK)
		if now := f.all(); !now.same(before) {
			t.Errorf("6.8: behind Undo of %s there is %v, and there was %v", name, now, before)
		}
		answers(t, "6.8: "+name, f.b.Undo(), api.ErrOpen)
		has(t, "6.12: "+name, open(t, anew(t, f.b.Log())), before.view.items...)

		answers(t, "6.8", f.b.Begin(), api.OK)
		change(f)
		inside := f.all()
		answers(t, "6.8", f.b.End(), api.OK)
		inside.view.begun = false
		if now := f.all(); !now.same(inside) {
			t.Errorf("6.8: behind End of %s there is %v, and there was %v", name, now, inside)
		}

		g := newFixture(t)
		change(g)
		if without := g.all(); !without.same(inside) {
			t.Errorf("6.8: without a change %s is another thing: %v, %v", name, without, inside)
		}
	}
}

// TestUndoWithoutPower lets the power go at each write of a change in turn; undoing it asks nothing of the disk.
func TestUndoWithoutPower(t *testing.T) {
	x, y := addr(1, "x"), addr(2, "y")
	for fuse := 0; !t.Failed(); fuse++ {
		f := newFixture(t)
		before := f.all()
		d := f.b.Log().Disk()
		d.Fuse(fuse)
		answers(t, "6.8", f.b.Begin(), api.OK)
		for _, e := range []api.Errno{
			second(f.b.Put(1, []byte("new"))),
			f.b.Move(x),
			second(f.b.Put(3, make([]byte, 900))),
			f.b.Move(y),
			second(f.b.Drop(0)),
			second(f.b.Put(1, []byte("newer"))),
		} {
			if e != api.OK {
				answers(t, "6.3", e, api.ErrPower)
			}
		}
		f.b.Keep([]api.Addr{y})
		gone := d.Off()
		answers(t, "6.8: with the power gone", f.b.Undo(), api.OK)
		if got := viewOf(f.b); !slices.Equal(got.items, before.view.items) || !slices.Equal(got.tail.Marks, before.view.tail.Marks) || got.begun {
			t.Errorf("6.8: fuse %d: %v, and it was %v", fuse, got, before.view)
		}
		on(d)
		if now := f.all(); !now.same(before) {
			t.Errorf("6.12: fuse %d: behind the crash there is %v, and there was %v", fuse, now, before)
		}
		puts(t, "6.3: behind the crash", f.b, 1, "new", addr(1, "new"))
		gets(t, "6.4: behind the crash", f.b, 1, addr(1, "new"), "new")
		if !gone {
			break
		}
	}
}

// TestUndoSetsBackWhatIsHeld: a segment that was held at Begin is held again, and one that was not is not.
func TestUndoSetsBackWhatIsHeld(t *testing.T) {
	f := newFixture(t)
	l := f.b.Log()
	before := l.Tail()
	answers(t, "6.8", f.b.Begin(), api.OK)
	if n, e := f.b.Drop(0); n != 2 || e != api.OK {
		t.Errorf("6.7: Drop = %d, %d", n, e)
	}
	answers(t, "6.8", f.b.Undo(), api.OK)
	if now := l.Tail(); !slices.Equal(now.Held, before.Held) || !slices.Equal(now.Marks, before.Marks) || now.Current != before.Current {
		t.Errorf("6.8: the log is at %v, and was at %v", now, before)
	}
	if n, e := f.b.Drop(0); n != 2 || e != api.OK {
		t.Errorf("6.7: Drop = %d, %d", n, e)
	}
	answers(t, "6.8", f.b.Begin(), api.OK)
	l.Settle()
	answers(t, "6.8", f.b.Undo(), api.OK)
	if !l.Tail().Held[0] {
		t.Error("6.8: what was held at Begin is not held any more")
	}
}
