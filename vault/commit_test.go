package vault_test

import (
	"bytes"
	"errors"
	"fmt"
	"strings"
	"testing"

	"witness/api"
	"witness/disk"
	"witness/sweep"
	"witness/vault"
)

// TestCommitOfNothing: a session without edits ends with its base's number; nothing is written.
func TestCommitOfNothing(t *testing.T) {
	d, v := store(t, 16, 1024, 3)
	a := asked{v}
	begun(t, v) // 1, on version 0
	commits(t, v, edit("a", "1"))
	begun(t, v) // 3, on version 1
	commits(t, v, edit("a", "2"))
	begun(t, v) // 5, on version 2
	is(t, "16.4: Batch of nothing", a.Batch(3, nil), "nil")
	is(t, "16.4: Batch of which nothing is taken", a.Batch(3, []api.Edit{edit("x", "1"), gone(letters("k", 1025))}), refused(api.ErrLimit))
	d.Fuse(0)
	before, versions := whatDiskHas(d), a.Versions()
	for n, want := range map[int]string{1: "0", 3: "1", 5: "2"} {
		is(t, "16.6: Commit without edits", a.Commit(n), want)
		is(t, "16.6: Commit again", a.Commit(n), refused(api.ErrSession))
	}
	is(t, "16.6: the disk", whatDiskHas(d), before)
	is(t, "16.12: Versions", a.Versions(), versions)
	is(t, "16.7: Sessions", a.Sessions(), "[]")
	d.Fuse(-1)
	begun(t, v)
	is(t, "16.10: Retain", a.Retain(1), "nil")
	is(t, "16.6: and on", fmt.Sprint(commits(t, v, edit("b", "1"))), "3")
	is(t, "16.6: Commit of a stale one without edits", a.Commit(6), at(2, api.ErrStale))
	is(t, "16.7: Sessions", a.Sessions(), "[6]")
}

// TestConflicts: what others have done between a session's base and the newest version.
func TestConflicts(t *testing.T) {
	base := []api.Edit{edit("b", "2"), edit("d", "4"), edit("f", "6")}
	long := letters("k", 1024)
	for i, row := range []struct {
		others [][]api.Edit // each a version
		own    []api.Edit
		want   string
	}{
		{nil, []api.Edit{edit("b", "x")}, "2"},
		{[][]api.Edit{{edit("a", "1")}}, []api.Edit{edit("b", "x")}, "3"},
		{[][]api.Edit{{edit("a", "1")}}, []api.Edit{edit("a", "1")}, lost("a")},
		{[][]api.Edit{{edit("a", "1")}}, []api.Edit{edit("a", "2")}, lost("a")},
		{[][]api.Edit{{edit("a", "1")}}, []api.Edit{gone("a")}, lost("a")},
		{[][]api.Edit{{edit("a", "")}}, []api.Edit{edit("a", "")}, lost("a")},
		{[][]api.Edit{{edit("a", "")}}, []api.Edit{gone("a")}, lost("a")},
		{[][]api.Edit{{edit("b", "x")}}, []api.Edit{edit("b", "x")}, lost("b")},
		{[][]api.Edit{{edit("b", "x")}}, []api.Edit{edit("b", "2")}, lost("b")},
		{[][]api.Edit{{edit("b", "x")}}, []api.Edit{gone("b")}, lost("b")},
		{[][]api.Edit{{gone("b")}}, []api.Edit{gone("b")}, lost("b")},
		{[][]api.Edit{{gone("b")}}, []api.Edit{edit("b", "2")}, lost("b")},
		{[][]api.Edit{{gone("b")}}, []api.Edit{edit("d", "x")}, "3"},
		{[][]api.Edit{{edit("b", "2")}}, []api.Edit{edit("b", "x")}, "3"},              // it has its old value still
		{[][]api.Edit{{edit("b", "x")}, {edit("b", "2")}}, []api.Edit{gone("b")}, "4"}, // it has its old value again
		{[][]api.Edit{{gone("b")}, {edit("b", "2")}}, []api.Edit{edit("b", "x")}, "4"},
		{[][]api.Edit{{edit("a", "1")}, {gone("a")}}, []api.Edit{edit("a", "x")}, "4"},
		{[][]api.Edit{{edit("a", "1")}, {gone("a")}}, []api.Edit{gone("a")}, "4"},
		{[][]api.Edit{{gone("nothing")}}, []api.Edit{gone("nothing")}, "3"}, // it is in neither map
		{[][]api.Edit{{edit("b", "x")}}, []api.Edit{edit("a", "1"), edit("c", "3"), edit("d", "x"), edit("f", "x"), edit("z", "26")}, "3"},
		{[][]api.Edit{{edit("f", "x"), edit("d", "x")}}, []api.Edit{edit("a", "1"), edit("f", "1"), edit("d", "1"), edit("b", "1")}, lost("d")},
		{[][]api.Edit{{edit("f", "x")}, {gone("d")}, {edit("c", "3")}}, []api.Edit{edit("f", "1"), gone("d"), gone("c"), gone("b")}, lost("c")},
		{[][]api.Edit{{edit("f", "x")}, {gone("d")}, {edit("c", "3")}}, []api.Edit{edit("f", "1"), gone("b")}, lost("f")},
		{[][]api.Edit{{edit("", "x"), edit("b", "x")}}, []api.Edit{edit("b", "1"), edit("", "1")}, lost("")},
		{[][]api.Edit{{edit(long, "x")}}, []api.Edit{edit("a", "1"), edit(long, "1")}, lost(long)},
		{[][]api.Edit{{edit("\x80", "x"), edit("\x7f", "x")}}, []api.Edit{edit("\x80", "1"), edit("\x7f", "1")}, lost("\x7f")},
	} {
		p := newPair(t, 40, 4096, 8)
		what := fmt.Sprint("16.6: conflict ", i)
		p.commits(base...)
		p.both(what, answers.Begin)
		n := p.m.begun
		p.both(what, func(a answers) string { return a.Batch(n, row.own) })
		for _, l := range row.others {
			p.commits(l...)
		}
		p.alike(what + ", ahead of it")
		p.says(what, row.want, func(a answers) string { return a.Commit(n) })
		p.alike(what + ", behind it")
		if strings.HasPrefix(row.want, "key") {
			p.says(what+", again", row.want, func(a answers) string { return a.Commit(n) })
			p.says(what+": the session is open still", "nil", func(a answers) string { return a.Delete(n, "new") })
			p.alike(what + ", behind another edit")
			p.says(what+", again", row.want, func(a answers) string { return a.Commit(n) })
		}
	}
}

// TestConflictIsOver: a conflict lasts only as long as the key is another one.
func TestConflictIsOver(t *testing.T) {
	p := newPair(t, 16, 4096, 9)
	p.commits(edit("a", "1"), edit("b", "2"))
	p.both("16.2: Begin", answers.Begin)
	n := p.m.begun
	p.both("16.4: Put", func(a answers) string { return a.Put(n, "b", "mine") })
	p.commits(edit("b", "x"))
	p.says("16.6: Commit", lost("b"), func(a answers) string { return a.Commit(n) })
	p.commits(gone("b"))
	p.says("16.6: Commit", lost("b"), func(a answers) string { return a.Commit(n) })
	p.commits(edit("b", "2"), edit("c", "3"))
	p.says("16.6: Commit", "5", func(a answers) string { return a.Commit(n) })
	p.alike("behind it")
	p.says("16.6: what it made", listWords([]string{entryWords("a", "1"), entryWords("b", "mine"), entryWords("c", "3")}, false), func(a answers) string { return a.RangeAt(5, all, 9) })
}

// TestCommitWrites: what a commit writes is what sweep.Apply and catalog.Add write.
func TestCommitWrites(t *testing.T) {
	d, v := store(t, 16, 1024, 3)
	commits(t, v, edit("a", "1"), edit("b", "2"), edit("c", letters("3", 300)))
	commits(t, v, edit("e", "5"))
	for i, l := range [][]api.Edit{{edit("d", "4")}, {gone("a"), edit("c", "x"), edit("b", "2")}, {gone("nothing")}, {edit("z", "26"), edit("y", "25"), edit("x", "24")}} {
		c := catalogOf(t, d)
		b := c.Blobs()
		other := b.Log().Disk()
		b.Begin()
		tree, e := sweep.Apply(b, c.Latest().Tree, l)
		if e != api.OK {
			t.Fatal(e)
		}
		version, e := c.Add(tree)
		if e != api.OK {
			t.Fatal(e)
		}
		x := d.Copy()
		is(t, fmt.Sprint("16.6: commit ", i), fmt.Sprint(commits(t, open(t, x), l...)), fmt.Sprint(version.Number))
		is(t, fmt.Sprint("16.6: commit ", i, ": the disk"), whatDiskHas(x), whatDiskHas(other))
	}
}

// full is a vault over a disk with room for little, and the model beside it.
func full(t *testing.T) (*disk.Disk, *pair) {
	t.Helper()
	d, v := store(t, 5, 1024, 2)
	p := &pair{t, asked{v}, newModel(2)}
	p.commits(edit("a", "1"))
	p.commits(edit("b", letters("2", 100)))
	return d, p
}

// TestFull: a commit for which there is no room leaves all as it was.
func TestFull(t *testing.T) {
	d, p := full(t)
	p.both("16.2: Begin", answers.Begin)
	n := p.m.begun
	for _, key := range []string{"c", "d", "e", "f"} {
		p.both("16.4: Put", func(a answers) string { return a.Put(n, key, letters(key, 900)) })
	}
	c := catalogOf(t, d)
	for range 3 {
		is(t, "16.6: Commit", p.v.Commit(n), refused(api.ErrFull))
		p.alike("behind ErrFull")
		other := asked{open(t, d.Copy())}
		is(t, "16.6: opened again", everything(other, nil, 3), everything(p.m.opened(), nil, 3))
		now := catalogOf(t, d)
		if c.Super() != now.Super() || fmt.Sprint(c.Page()) != fmt.Sprint(now.Page()) {
			t.Errorf("16.6: the page is %v, want %v", now.Page(), c.Page())
		}
	}
	d.Crash(api.Crash{Keep: []bool{true, true, true, true, true, true}, Torn: 6, At: 70}) // of what was written in vain
	p.v = asked{open(t, d)}
	p.m = p.m.opened()
	p.alike("behind ErrFull and a crash")
	p.commits(edit("c", "3"))
	p.alike("behind a commit")
}

// TestFullIsOver: the session commits as soon as there is room, or there is less in it.
func TestFullIsOver(t *testing.T) {
	_, p := full(t)
	p.both("16.2: Begin", answers.Begin)
	n := p.m.begun
	for _, key := range []string{"c", "d", "e"} {
		p.both("16.4: Put", func(a answers) string { return a.Put(n, key, letters(key, 700)) })
	}
	is(t, "16.6: Commit", p.v.Commit(n), refused(api.ErrFull))
	p.both("16.4: Delete", func(a answers) string { return a.Delete(n, "d") })
	p.both("16.4: Delete", func(a answers) string { return a.Delete(n, "e") })
	p.says("16.6: Commit of less", "3", func(a answers) string { return a.Commit(n) })
	p.alike("behind it")

	_, p = full(t)
	for i := 0; ; i++ {
		p.both("16.2: Begin", answers.Begin)
		n := p.m.begun
		p.both("16.4: Put", func(a answers) string { return a.Put(n, "b", letters("b", 100+i)) })
		if p.v.Commit(n) == refused(api.ErrFull) {
			p.both("16.10: Retain", func(a answers) string { return a.Retain(1) })
			for range 9 {
				p.v.Compact()
			}
			p.both("16.6: Commit behind Compact", func(a answers) string { return a.Commit(n) })
			p.alike("behind it")
			return
		}
		p.m.Commit(n)
	}
}

// spoil turns a bit in the frame of a blob that holds a text, and again turns it back.
func spoil(t *testing.T, d *disk.Disk, kind byte, hold string) {
	t.Helper()
	c := catalogOf(t, d)
	found := 0
	for addr, place := range c.Blobs().Each() {
		body, e := c.Blobs().Get(kind, addr)
		if e == api.OK && bytes.Contains(body, []byte(hold)) {
			found++
			flip(d, place)
		}
	}
	if found == 0 {
		t.Fatalf("no blob of kind %d holds %q", kind, hold)
	}
}

// flip turns a bit of a frame's body, in segments of 1024 bytes.
func flip(d *disk.Disk, place api.Place) {
	at := place.At + place.Len - 5
	d.Rot(2+8*place.Seg+at/sector, at%sector, 4)
}

// TestDamage: what is spoilt beneath a vault is told, and nothing else is changed by that.
func TestDamage(t *testing.T) {
	d, v := store(t, 16, 1024, 4)
	a := asked{v}
	commits(t, v, edit("a", "one"), edit("b", "two"), edit("c", "three"))
	begun(t, v) // 2, on version 1
	must(t, "16.4: Put", v.Put(2, []byte("b0"), []byte("x")))
	commits(t, v, edit("a0", "new"), edit("b", "too"), edit("d", "four"))
	begun(t, v) // 4, on version 2
	must(t, "16.4: Delete", v.Delete(4, []byte("c")))
	was, leafed := everything(a, []int{2, 4}, 3), a.Included(1)
	no := refused(api.ErrTree)

	back := damaged(t, d, 1, "two")
	is(t, "16.5: Get", a.Get(2, "b"), no)
	is(t, "16.5: Get of another", a.Get(2, "a"), `"one" true`)
	is(t, "16.5: Get of an edit", a.Get(2, "b0"), `"x" true`)
	is(t, "16.5: Get in another version", a.Get(4, "b"), `"too" true`)
	is(t, "16.5: Range", a.Range(2, all, 9), no)
	is(t, "16.5: Range ahead of it", a.Range(2, span("a", "b0"), 1), listWords([]string{entryWords("a", "one")}, true))
	is(t, "16.5: Range behind it", a.Range(2, from("c"), 9), listWords([]string{entryWords("c", "three")}, false))
	is(t, "16.8: GetAt", a.GetAt(1, "b"), no)
	is(t, "16.8: RangeAt", a.RangeAt(1, all, 9), no)
	is(t, "16.8: RangeAt ahead of it", a.RangeAt(1, all, 1), listWords([]string{entryWords("a", "one")}, true))
	is(t, "16.8: Each", a.Each(1, all), entryWords("a", "one")+", "+no)
	is(t, "16.8: Diff", a.Diff(1, 2), no)
	is(t, "16.8: Diff the other way round", a.Diff(2, 1), no)
	is(t, "16.8: ProveAt", a.ProveAt(1, all), no)
	is(t, "16.8: ProveAt behind it", a.ProveAt(1, from("c")), provenWords([]string{entryWords("c", "three")}, 2, 3))
	must(t, "16.4: Delete", v.Delete(2, []byte("b")))
	is(t, "16.6: Commit", a.Commit(2), no)
	must(t, "16.7: Abort", v.Abort(2))
	back()
	if n, err := v.BeginAt(1); n != 5 || err != nil {
		t.Fatalf("16.2: BeginAt: %d, %s", n, told(err))
	}
	must(t, "16.4: Put", v.Put(5, []byte("b0"), []byte("x")))
	is(t, "16.6: nothing has changed", strings.ReplaceAll(everything(a, []int{5, 4}, 3), "[4 5]", "[2 4]"), was)

	back = damaged(t, d, 2, "c") // the towers that hold c, of both versions
	is(t, "16.6: Commit", a.Commit(4), no)
	is(t, "16.6: again", a.Commit(4), no)
	is(t, "16.7: Sessions", a.Sessions(), "[4 5]")
	back()
	is(t, "16.6: nothing has changed", strings.ReplaceAll(everything(a, []int{5, 4}, 3), "[4 5]", "[2 4]"), was)

	for addr, place := range catalogOf(t, d).Blobs().Each() {
		if _, e := catalogOf(t, d).Blobs().Get(api.KindFork, addr); e == api.OK {
			flip(d, place)
		}
	}
	is(t, "16.9: Included with a spoilt fork", a.Included(1), refused(api.ErrCheck))
	is(t, "16.9: Extends with a spoilt fork", a.Extends(1), refused(api.ErrCheck))
	is(t, "16.9: Included that needs no fork", a.Included(2), pathWords(path(leavesOf(t, v), 2)))
	if leafed == refused(api.ErrCheck) {
		t.Error("16.9: Included ahead of the damage")
	}
}

// TestOneTree: two versions with one tree are one map, whatever is spoilt in it.
func TestOneTree(t *testing.T) {
	d, v := store(t, 16, 1024, 4)
	commits(t, v, edit("a", "one"), edit("b", "two"))
	n := edited(t, v, edit("a", "own"))
	commits(t, v, gone("nothing"))
	damaged(t, d, 1, "one")
	is(t, "16.6: Commit", asked{v}.Commit(n), "3")
	is(t, "16.8: GetAt", asked{v}.GetAt(3, "a")+asked{v}.GetAt(2, "a"), valueWords("own", true)+refused(api.ErrTree))
}

// leavesOf is the leaves of annals whose versions are all kept.
func leavesOf(t *testing.T, v *vault.Vault) []api.Leaf {
	t.Helper()
	l, err := v.Versions()
	must(t, "16.8: Versions", err)
	var leaves []api.Leaf
	for _, x := range l {
		leaves = append(leaves, api.Leaf{Version: x.Number, Label: x.Tree.Label})
	}
	return leaves
}

// damaged spoils a blob; what it answers turns it back.
func damaged(t *testing.T, d *disk.Disk, kind byte, hold string) func() {
	t.Helper()
	whole := d.Copy()
	spoil(t, d, kind, hold)
	return func() {
		now, was := d.Image(), whole.Image()
		for i := range now {
			if now[i] != was[i] {
				d.Rot(i/sector, i%sector, now[i]^was[i])
			}
		}
	}
}

// TestErrors: errors are told by errors.Is and errors.As, with the number or the key that they name.
func TestErrors(t *testing.T) {
	_, v := store(t, 16, 1024, 2)
	begun(t, v) // 1, on version 0
	begun(t, v) // 2, on version 0
	commits(t, v, edit("a", "1"))
	must(t, "16.4: Put", v.Put(2, []byte("a"), nil))
	_, conflict := v.Commit(2)
	commits(t, v, edit("a", "2"))
	_, _, stale := v.Get(1, []byte("a"))
	_, _, version := v.GetAt(7, []byte("a"))
	_, above := v.Included(8)
	var atVersion *api.VersionError
	var atKey *api.KeyError
	if !errors.Is(conflict, api.ErrConflict) || !errors.As(conflict, &atKey) || string(atKey.Key) != "a" || errors.As(conflict, &atVersion) {
		t.Errorf("16.6: a conflict is %s", told(conflict))
	}
	for _, row := range []struct {
		err    error
		is     api.Errno
		number uint64
	}{{stale, api.ErrStale, 0}, {version, api.ErrVersion, 7}, {above, api.ErrVersion, 8}} {
		if !errors.Is(row.err, row.is) || !errors.As(row.err, &atVersion) || atVersion.Number != row.number || errors.As(row.err, &atKey) || errors.Is(row.err, api.ErrDead) {
			t.Errorf("16, 'Words': %s, want %s", told(row.err), at(row.number, row.is))
		}
	}
	if errors.Is(stale, api.ErrVersion) || errors.Is(version, api.ErrStale) {
		t.Error("16, 'Words': a stale session and a version that is not kept are told alike")
	}
	for name, err := range map[string]error{"ErrSession": v.Abort(99), "ErrWindow": v.Retain(0), "ErrLimit": v.Put(1, nil, nil)} {
		if name != "ErrLimit" && (errors.As(err, &atVersion) || errors.As(err, &atKey)) {
			t.Errorf("16, 'Words': %s comes wrapped", name)
		}
	}
}

// TestFullAnywhere: there is no room for the edits, or there is for these, but not for the page.
func TestFullAnywhere(t *testing.T) {
	d, _ := full(t)
	met := map[string]int{}
	for size := 20; size < 3200; size += 45 {
		x := d.Copy()
		p := &pair{t, asked{open(t, x)}, newModel(2)}
		p.m.grow(map[string]string{"a": "1"})
		p.m.grow(map[string]string{"a": "1", "b": letters("2", 100)})
		p.both("16.2: Begin", answers.Begin)
		var l []api.Edit
		for i := 0; i < size; i += 700 {
			l = append(l, edit(fmt.Sprint("k", i), letters("v", min(700, size-i))))
		}
		p.both("16.4: Batch", func(a answers) string { return a.Batch(1, l) })
		c := catalogOf(t, x)
		_, e := sweep.Apply(c.Blobs(), c.Latest().Tree, l)
		before := whatHolds(t, x)
		got := p.v.Commit(1)
		switch {
		case got == "3":
			met["room"]++
			p.m.Commit(1)
		case e == api.OK:
			met["no room for the page"]++
			is(t, "16.6: Commit", got, refused(api.ErrFull))
		default:
			met["no room for the edits"]++
			is(t, "16.6: Commit", got, told(e))
		}
		if got != "3" {
			is(t, "16.6: the store behind ErrFull", whatHolds(t, x), before)
		}
		p.alike("behind Commit")
		p.v = asked{open(t, x)}
		p.m = p.m.opened()
		p.alike("opened again")
		if got != "3" { // else there may be no room left
			p.commits(edit("a", "x"))
			p.alike("and on")
		}
	}
	if len(met) != 3 {
		t.Errorf("16.6: commits of all sorts: %v", met)
	}
}
