package skip_test

import (
	"fmt"
	"maps"
	"slices"
	"strings"
	"testing"

	"witness/api"
	"witness/skip"
)

// TestEachKeyOfSomeMaps puts and deletes each key of a map: the tallest one and the lowest ones, the first and the last one.
func TestEachKeyOfSomeMaps(t *testing.T) {
	tall := map[string]string{lowest: "low", higher: "high"}
	for level, key := range byLevel {
		tall[key] = fmt.Sprint(level)
	}
	flat := map[string]string{"": "first"}
	for i, key := range keysOf(1, 6, "k") {
		flat[key] = fmt.Sprint(i)
	}
	steps := map[string]string{}
	for height := 1; height <= 5; height++ {
		for i, key := range append(keysOf(height, 3, fmt.Sprint(6-height)), keysOf(height, 2, fmt.Sprint(6+height))...) {
			steps[key] = fmt.Sprint("v", i) // values that are there already, too
		}
	}
	for _, m := range []map[string]string{tall, flat, steps} {
		s := wide(t)
		x := s.built(m)
		for _, key := range slices.Sorted(maps.Keys(m)) {
			less, n := s.deletes(x, m, key)
			s.checks("without "+key, less, api.OK)
			again, _ := s.puts(less, n, key, m[key])
			isTree(t, "8.9: deleted and put again", again, api.OK, x)
			other, n := s.puts(x, m, key, "another value")
			s.checks("with another value", other, api.OK)
			s.puts(other, n, key, m[key])
			s.unchanged("8.5: the value that it has", func() { s.puts(x, m, key, m[key]) })
			s.unchanged("8.6: a key that is not there", func() { s.deletes(x, m, key+"\x00") })
		}
		for _, key := range slices.Backward(slices.Sorted(maps.Keys(m))) {
			x, m = s.deletes(x, m, key)
		}
		isTree(t, "8.9: all is gone", x, api.OK, s.empty())
	}
}

// TestPutBetween puts keys of each height ahead of, between and behind keys of each height.
func TestPutBetween(t *testing.T) {
	for height := 1; height <= 4; height++ {
		m := map[string]string{}
		for other := 1; other <= 4; other++ {
			for _, key := range keysOf(other, 3, "m") {
				m[key] = "old"
			}
		}
		s := wide(t)
		x := s.built(m)
		for _, front := range []string{"", "l", "m000", "m00000", "m000001", "m00001", "m1", "z"} {
			key := keysOf(height, 1, front+".")[0]
			y, n := s.puts(x, m, key, "new")
			s.checks("one more key", y, api.OK)
			back, _ := s.deletes(y, n, key)
			isTree(t, "8.9: put and deleted", back, api.OK, x)
		}
	}
}

// TestOrderOfWriting: a higher key takes kids over from many; all of them are written from the lowest up.
func TestOrderOfWriting(t *testing.T) {
	m := map[string]string{}
	for height := 5; height >= 1; height-- { // they stand side by side, each lower than the one ahead
		m[keysOf(height, 1, fmt.Sprint("a", 5-height))[0]] = "ahead"
		m[keysOf(height, 1, fmt.Sprint("z", height))[0]] = "behind"
	}
	s := wide(t)
	x := s.empty()
	for _, key := range slices.Backward(slices.Sorted(maps.Keys(m))) { // so that no tower ahead was ever without what is behind it
		x, _ = skip.Put(s.b, x, []byte(key), []byte(m[key]))
	}
	key := keysOf(6, 1, "m")[0]
	var y api.Tree
	var n map[string]string
	written := s.added("8.5: Put", func() { y, n = s.puts(x, m, key, "new") })
	p := planOf(n)
	want := []api.Addr{}
	for _, ahead := range slices.Backward(p.keys[:5]) {
		want = append(want, towerAddr(p.towers[ahead]))
	}
	want = append(want, valueAddr("new"), towerAddr(p.towers[key]), p.tree.Addr)
	if !slices.Equal(written, want) {
		t.Errorf("8.5: written is %s, want %s", fronts(written), fronts(want))
	}
	if len(p.towers[key].Kids) != 5 {
		t.Errorf("8.5: the key has %d kids, want 5", len(p.towers[key].Kids))
	}
	s.checks("with a higher key", y, api.OK)
	s.unchanged("8.6: all of the older tree is there", func() { s.deletes(y, n, key) })
}

// TestValuesThatAreThere: two keys with one value have one blob.
func TestValuesThatAreThere(t *testing.T) {
	s := wide(t)
	x, m := s.puts(s.empty(), mapOf(), "a", "same")
	x, m = s.puts(x, m, "b", "same")
	x, m = s.puts(x, m, "c", "")
	x, m = s.puts(x, m, "d", "")
	s.holds(x, m)
	x, m = s.deletes(x, m, "a")
	s.holds(x, m)
}

// TestAnAddressAmongTwins: kids and values have the addresses that blobs give.
func TestAnAddressAmongTwins(t *testing.T) {
	s := wide(t)
	own := api.Tower{Key: []byte("a"), Value: valueAddr("1")}
	own.Value.Nth = 7
	for _, f := range []api.Frame{{Kind: api.KindValue, Body: []byte("\x071")}, {Kind: api.KindTower, Body: cat([]byte{5}, recordOf(own))}} {
		_, e := s.b.Log().Append(f)
		answers(t, "5.4: Append", e, api.OK)
	}
	s = s.reopened()
	x, e := skip.Put(s.b, s.empty(), []byte("a"), []byte("1"))
	kid := kidOf(own)
	kid.Addr.Nth = 5
	head := api.Tower{Head: true, Kids: []api.Kid{kid}}
	isTree(t, "8.5: a tower and a value that are there with another Nth", x, e, treeOf(head))
	s.paths(x, "a", head, own)
	s.gets(x, "a", "1", true)
	s.checks("addresses with another Nth", x, api.OK)
	if s.b.Len() != 4 {
		t.Errorf("8.5: %d blobs, want two heads, the tower, the value", s.b.Len())
	}
	s.unchanged("8.5: it has that value", func() {
		y, e := skip.Put(s.b, x, []byte("a"), []byte("1"))
		isTree(t, "8.5: it has that value", y, e, x)
	})
	// The same value a second time, as if the address ahead were another text's: the key has that value all the same.
	_, e = s.b.Log().Append(api.Frame{Kind: api.KindValue, Body: []byte("\x001")})
	answers(t, "5.4: Append", e, api.OK)
	s = s.reopened()
	s.unchanged("8.5: it has that value", func() {
		y, e := skip.Put(s.b, x, []byte("a"), []byte("1"))
		isTree(t, "8.5: it has that value", y, e, x)
	})
}

// TestChangesAreNotTouched: no change is begun or ended, and one that goes on can be undone.
func TestChangesAreNotTouched(t *testing.T) {
	s, l := grown(t)
	m := mapOf("a", "1", "b", "2", "c", "3")
	answers(t, "8.2: no change has begun: End", s.b.End(), api.ErrOpen)
	answers(t, "6.8: Begin", s.b.Begin(), api.OK)
	before := s.view()
	x, n := s.puts(l[3], m, "d", "4")
	s.deletes(x, n, "a")
	s.checks("within a change", x, api.OK)
	s.putFails("within a change", api.Tree{}, "x", "y", api.ErrTree)
	s.empty()
	answers(t, "8.2: a change goes on: Begin", s.b.Begin(), api.ErrOpen)
	answers(t, "8.2: a change goes on: Undo", s.b.Undo(), api.OK)
	now := s.view()
	if !slices.Equal(now.addrs, before.addrs) {
		t.Errorf("8.2: behind Undo there are %d blobs, and there were %d", len(now.addrs), len(before.addrs))
	}
	s.getFails("of a tree that was undone", x, "a", api.ErrTree)
	s.holds(l[3], m)
	s.puts(l[3], m, "d", "4")
}

// costs is a store in which the next edit writes several blobs into the rest of one segment, and the edit.
func costs(t *testing.T) (s store, call func(s store) (api.Tree, api.Errno), want *plan, x api.Tree, m map[string]string) {
	t.Helper()
	s = narrow(t, 512) // 64 KiB
	m = map[string]string{"": "e"}
	for height := 4; height >= 1; height-- {
		m[keysOf(height, 1, fmt.Sprint("a", 5-height))[0]] = strings.Repeat("a", height*50)
		m[keysOf(height, 1, fmt.Sprint("z", height))[0]] = "z"
	}
	x = s.empty()
	for _, key := range slices.Backward(slices.Sorted(maps.Keys(m))) {
		x, _ = skip.Put(s.b, x, []byte(key), []byte(m[key]))
	}
	key := keysOf(5, 1, "m")[0]
	n := maps.Clone(m)
	n[key] = strings.Repeat("v", 300)
	call = func(s store) (api.Tree, api.Errno) { return skip.Put(s.b, x, []byte(key), []byte(n[key])) }
	return s, call, planOf(n), x, m
}

// partly holds an edit that was broken off against what it must have written, and the older tree against its map.
func (s store) partly(what string, want *plan, errno api.Errno, call func(s store) (api.Tree, api.Errno)) (int, bool) {
	s.t.Helper()
	missing := s.missing(want)
	done := false
	written := s.added(what, func() {
		x, e := call(s)
		if done = e == api.OK; done {
			isTree(s.t, what, x, e, want.tree)
		} else {
			noTree(s.t, what, x, e, errno)
			s.on()
		}
	})
	if len(written) > len(missing) || !slices.Equal(written, missing[:len(written)]) || done && len(written) != len(missing) {
		s.t.Errorf("%s: written is %s, want of %s the first ones", what, fronts(written), fronts(missing))
	}
	return len(written), done
}

func TestPowerGoesAtEachWrite(t *testing.T) {
	most := 0
	for fuse := 0; !t.Failed(); fuse++ {
		s, call, want, x, m := costs(t)
		s.d.Fuse(fuse)
		n, done := s.partly("8.5: as the power goes", want, api.ErrPower, call)
		if n < most {
			t.Errorf("8.5: %d blobs behind %d writes, and %d behind fewer", n, fuse, most)
		}
		most = max(most, n)
		s.holds(x, m)
		if done {
			if fuse < 7 || most != 7 {
				t.Errorf("8.5: %d blobs by %d writes, want 7", most, fuse)
			}
			return
		}
		again, e := call(s)
		isTree(t, "8.5: behind a broken one", again, e, want.tree)
		s.checks("behind a broken one", again, api.OK)
	}
}

// TestPowerGoesAtEachWriteOfADelete: of a tall key, whose kids go to many.
func TestPowerGoesAtEachWriteOfADelete(t *testing.T) {
	for fuse := 0; !t.Failed(); fuse++ {
		s, put, want, x, m := costs(t)
		y, e := put(s)
		answers(t, "8.5: Put", e, api.OK)
		tall := keysOf(5, 1, "m")[0]
		mid := keysOf(4, 1, "a1")[0]
		z, e := skip.Put(s.b, y, []byte(mid), []byte("other")) // so that what the Delete needs is not there yet
		answers(t, "8.5: Put", e, api.OK)
		n := maps.Clone(m)
		n[mid] = "other"
		s.d.Fuse(fuse)
		_, done := s.partly("8.6: as the power goes", planOf(n), api.ErrPower, func(s store) (api.Tree, api.Errno) {
			x, was, e := skip.Delete(s.b, z, []byte(tall))
			if was != (e == api.OK) {
				t.Errorf("8.6: Delete tells %v, %d", was, e)
			}
			return x, e
		})
		s.holds(x, m)
		s.holds(y, mapWith(want))
		if done {
			return
		}
	}
}

func mapWith(p *plan) map[string]string {
	m := map[string]string{}
	for i, key := range p.keys {
		m[key] = p.values[i]
	}
	return m
}

// TestNoRoomAtEachBlob: as many bytes are left as some of the blobs need, or one less.
func TestNoRoomAtEachBlob(t *testing.T) {
	s, call, want, _, _ := costs(t)
	missing := s.missing(want)
	_, e := call(s)
	answers(t, "8.5: Put", e, api.OK)
	room := 0
	for i := range len(missing) + 1 {
		for _, left := range []int{room - 1, room} {
			if left < 0 {
				continue
			}
			s, call, want, x, m := costs(t)
			used := s.b.Log().Tail().Marks[0].Used
			s.value(string(make([]byte, 65536-used-14-left)))
			n, done := s.partly("8.5: without room", want, api.ErrFull, call)
			if n != i-(room-left) || done != (n == len(missing)) {
				t.Errorf("8.5: with %d bytes left %d blobs are written, want %d", left, n, i-(room-left))
			}
			s.holds(x, m)
		}
		if i < len(missing) {
			p, _ := s.b.Where(missing[i])
			room += p.Len
		}
	}
}

// TestReadsThatFail: an edit comes upon a damaged blob that it would have to write.
func TestReadsThatFail(t *testing.T) {
	_, _, want, _, _ := costs(t)
	s, _, _, _, _ := costs(t)
	for i, a := range s.missing(want) {
		s, call, want, x, m := costs(t)
		_, e := call(s)
		answers(t, "8.5: Put", e, api.OK)
		s.turn(a)
		s.unchanged("8.5: a damaged blob is there", func() {
			y, e := call(s)
			noTree(t, fmt.Sprintf("8.5: the blob %d is damaged", i), y, e, api.ErrCheck)
		})
		s.holds(x, m)
		s.checks("a damaged blob", want.tree, api.ErrTree)
	}
}
