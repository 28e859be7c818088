package audit_test

import (
	"fmt"
	"maps"
	"slices"
	"testing"

	"witness/api"
	"witness/catalog"
	"witness/disk"
	"witness/node"
	"witness/skip"
)

// treeFaults are those of a tower that is a kid, of one that is a head, of a value.
var (
	kidFaults   = []string{"missing", "another Nth", "kind 1", "kind 3", "kind 4", "a byte more", "a byte less", "empty", "not valid", "another key", "another count", "another label"}
	headFaults  = []string{"missing", "another Nth", "kind 1", "kind 3", "kind 4", "a byte more", "a byte less", "empty", "not valid", "no head", "another count", "another count alone", "another label"}
	valueFaults = []string{"missing", "another Nth", "kind 2", "kind 3", "kind 4"}
)

// placesOf are all places of a tree of a scene, with the faults that may be there.
func placesOf(tree string, keys []string) map[string][]string {
	l := map[string][]string{tree + "head": headFaults}
	for _, k := range keys {
		l[tree+k], l[tree+k+"="] = kidFaults, valueFaults
	}
	return l
}

// TestTreesThatAreNotWhole: each fault at each place of a tree; the others are whole all the same.
func TestTreesThatAreNotWhole(t *testing.T) {
	t.Parallel()
	keys := len(keysOf)
	for kept := range uint64(3) {
		version := 4 + kept
		tree := fmt.Sprint(version, ":")
		mine := keysOf[:keys-2+int(kept)]
		for place, faults := range placesOf(tree, mine) {
			for _, fault := range faults {
				what := fmt.Sprintf("17.5: %s at %q", fault, place)
				d := sceneOf(t, 7, map[string]string{place: fault}).lay()
				r := alike(t, what, d)
				finds(t, what, r, of(api.ErrTree, version))
				if want := uint64(keys + keys - 1 + keys - 2 - len(mine)); r.Keys != want {
					t.Errorf("%s: %d keys, want %d", what, r.Keys, want)
				}
				holdsOpened(t, what, d, version)
			}
		}
	}
}

// holdsOpened holds skip.Check of each version that a catalog keeps against what an audit has found.
func holdsOpened(t *testing.T, what string, d *disk.Disk, wrong ...uint64) {
	t.Helper()
	c := open(t, d)
	for _, v := range c.Page().Versions {
		want := api.OK
		if slices.Contains(wrong, v.Number) {
			want = api.ErrTree
		}
		if e := skip.Check(c.Blobs(), v.Tree); e != want {
			t.Errorf("%s: Check of version %d = %d, want %d", what, v.Number, e, want)
		}
	}
}

// TestSeveralVersions: faults in several versions, each told once.
func TestSeveralVersions(t *testing.T) {
	r := noise(3)
	for range 150 {
		faults := map[string]string{}
		spoilt := map[uint64]bool{}
		for range 1 + r.IntN(4) {
			version := 4 + r.Uint64N(3)
			tree := fmt.Sprint(version, ":")
			all := placesOf(tree, keysOf[:len(keysOf)-int(6-version)])
			places := slices.Sorted(maps.Keys(all))
			place := places[r.IntN(len(places))]
			faults[place] = all[place][r.IntN(len(all[place]))]
			spoilt[version] = true
		}
		var want []api.Finding
		keys := uint64(0)
		for version := uint64(4); version < 7; version++ {
			if spoilt[version] {
				want = append(want, of(api.ErrTree, version))
			} else {
				keys += uint64(len(keysOf)) - 6 + version
			}
		}
		x := alike(t, fmt.Sprint(faults), sceneOf(t, 7, faults).lay())
		finds(t, fmt.Sprint("17.5: ", faults), x, want...)
		if x.Keys != keys {
			t.Errorf("17.5: %v: %d keys, want %d", faults, x.Keys, keys)
		}
	}
}

// sceneWith is a scene of one version, whose tree has a head that is made by hand.
func sceneWith(t *testing.T, kids func(s *scene) []api.Kid) *scene {
	t.Helper()
	s := &scene{shelf: newShelf(t, 1024, 128, 2)}
	head := api.Tower{Head: true, Kids: kids(s)}
	s.page.Versions = []api.Version{{Tree: treeOf(head, s.blob(2, towerBytes(head)))}}
	s.page.Annal = s.annals(1)
	return s
}

// keyOf is a key between two others, of that height.
func keyOf(height int, behind string) string {
	for i := 0; ; i++ {
		k := fmt.Sprint(behind, "+", i)
		if node.Height([]byte(k)) == height {
			return k
		}
	}
}

// TestKeysOutOfPlace: each key must be less than the key of the kid ahead of those that it hangs at, however deep it hangs.
func TestKeysOutOfPlace(t *testing.T) {
	one := func(behind string) string { return keyOf(1, behind) }
	for _, row := range []struct {
		name string
		keys int // 0: it is not whole
		kids func(s *scene) []api.Kid
	}{
		{"in place", 4, func(s *scene) []api.Kid {
			deep := s.kid("", keyOf(2, "b"), s.kid("", one("bx")))
			return []api.Kid{s.kid("", "c"), s.kid("", "a", deep)}
		}},
		{"behind the kid ahead", 0, func(s *scene) []api.Kid {
			return []api.Kid{s.kid("", "c"), s.kid("", "a", s.kid("", one("d")))}
		}},
		{"behind it, deep down", 0, func(s *scene) []api.Kid {
			deep := s.kid("", keyOf(2, "b"), s.kid("", keyOf(2, "bb"), s.kid("", keyOf(2, "bbb"), s.kid("", one("d")))))
			return []api.Kid{s.kid("", "c"), s.kid("", "a", deep)}
		}},
		{"behind it, below a lower kid", 0, func(s *scene) []api.Kid {
			high, low := s.kid("", keyOf(2, "bb")), s.kid("", one("b"), s.kid("", one("bc")))
			return []api.Kid{s.kid("", "c"), s.kid("", "a", high, low)}
		}},
		{"ahead of it, below a lower kid", 5, func(s *scene) []api.Kid {
			high, low := s.kid("", keyOf(2, "bb")), s.kid("", one("b"), s.kid("", one("ba")))
			return []api.Kid{s.kid("", "c"), s.kid("", "a", high, low)}
		}},
		{"behind the bound of the tower's own tower", 0, func(s *scene) []api.Kid {
			e := s.kid("", "e", s.kid("", one("j")))
			return []api.Kid{s.kid("", "i"), s.kid("", "c", e)}
		}},
		{"below the highest kid of all there is no bound", 4, func(s *scene) []api.Kid {
			return []api.Kid{s.kid("", "c", s.kid("", "e", s.kid("", one("zzz")))), s.kid("", "a")}
		}},
		{"the same tower twice", 0, func(s *scene) []api.Kid {
			d := s.kid("", "d")
			return []api.Kid{s.kid("", "c", d), s.kid("", "a", d)}
		}},
		{"a kid's key alone is in place", 0, func(s *scene) []api.Kid {
			b := s.kid("", one("b"), s.kid("", one("d")))
			return []api.Kid{s.kid("", "c"), s.kid("", "a", b)}
		}},
	} {
		valid := true
		s := sceneWith(t, func(s *scene) []api.Kid {
			kids := row.kids(s)
			valid = node.Valid(api.Tower{Head: true, Kids: kids}) == api.OK
			return kids
		})
		d := s.lay()
		r := alike(t, row.name, d)
		var want []api.Finding
		if row.keys == 0 {
			want = append(want, of(api.ErrTree, 0))
		}
		finds(t, "17.5: "+row.name, r, want...)
		if int(r.Keys) != row.keys || r.Live != r.Blobs {
			t.Errorf("17.5: %s: %v, want %d keys", row.name, r, row.keys)
		}
		if !valid {
			t.Errorf("7.4: %s: the head is not valid", row.name)
		}
		if row.keys > 0 {
			holdsOpened(t, row.name, d)
		} else {
			holdsOpened(t, row.name, d, 0)
		}
	}
}

// TestHeadAsKid: a head with the key, count and label that a kid has is no kid.
func TestHeadAsKid(t *testing.T) {
	s := sceneWith(t, func(s *scene) []api.Kid {
		inner := api.Tower{Head: true, Kids: []api.Kid{s.kid("", "b")}}
		k := api.Kid{Level: node.Height(nil) - 1, Count: node.Count(inner), Label: node.Label(inner), Addr: s.blob(2, towerBytes(inner))}
		return []api.Kid{k}
	})
	r := alike(t, "a head as a kid", s.lay())
	finds(t, "17.5: a head as a kid", r, of(api.ErrTree, 0))
	if r.Live != r.Blobs {
		t.Errorf("17.6: %v", r)
	}
}

// TestGreatValues: a value of MaxValue bytes is one, a greater one is none, though it is there.
func TestGreatValues(t *testing.T) {
	for more, findings := range [][]api.Finding{nil, {of(api.ErrTree, 0)}} {
		s := sceneWith(t, func(s *scene) []api.Kid {
			v := s.blob(1, make([]byte, api.MaxValue+more))
			tower := api.Tower{Key: []byte("a"), Value: v}
			return []api.Kid{{Level: 1, Key: tower.Key, Count: 1, Addr: s.blob(2, towerBytes(tower)), Label: node.Label(tower)}}
		})
		r := alike(t, "a great value", s.lay())
		holds(t, "17.5: a great value", r, [6]int{1, 1, 5, 4, 4, 1 - more}, findings...)
	}
}

// TestEmptyMaps: a tree without keys is whole; so is one with the empty key alone.
func TestEmptyMaps(t *testing.T) {
	none := sceneWith(t, func(*scene) []api.Kid { return nil })
	holds(t, "17.5: no keys", alike(t, "no keys", none.lay()), [6]int{1, 1, 3, 2, 2, 0})
	one := sceneWith(t, func(s *scene) []api.Kid { return []api.Kid{s.kid("", "")} })
	holds(t, "17.5: the empty key", alike(t, "the empty key", one.lay()), [6]int{1, 1, 5, 4, 4, 1})
}

// TestWrongCounts: counts that are right for each other but not for what hangs there.
func TestWrongCounts(t *testing.T) {
	s := sceneWith(t, func(s *scene) []api.Kid {
		k := s.kid("", "a")
		k.Count = last
		return []api.Kid{k}
	})
	r := alike(t, "2^62 keys", s.lay())
	holds(t, "17.5: 2^62 keys", r, [6]int{1, 1, 5, 4, 4, 0}, of(api.ErrTree, 0))
}

// TestShared: blobs that several versions share are live once, and count for the keys of each.
func TestShared(t *testing.T) {
	d := newDisk(t, 2+8*20, sector)
	must(t, "14.1: Format", catalog.Format(d, 8, 4))
	c := open(t, d)
	add(t, c, "a", "1")
	for range 3 {
		_, e := c.Add(c.Latest().Tree)
		must(t, "14.8: Add", e)
	}
	r := alike(t, "one tree four times", d)
	// A head, a tower, a value; five leaves, three forks. The empty map's head is there and not live.
	if r.Live != 3+8 || r.Blobs != 4+8 || r.Keys != 4 {
		t.Errorf("17.6: %v", r)
	}
	place, _ := c.Blobs().Where(api.Addr{Sum: sum([]byte("\x011"))})
	turn(d, 8, place.Seg, place.At+10, 1)
	r = alike(t, "its value is lost", d)
	if r.Keys != 0 || len(r.Findings) < 5 {
		t.Errorf("17.5: %v", r)
	}
}

// TestLive: what is met, each address once, as what it is met first.
func TestLive(t *testing.T) {
	// Faults leave what they stand for unmet; what stands there in its stead is met, and has nothing behind it.
	whole := run(t, sceneOf(t, 7, nil).lay(), 1)
	for _, row := range []struct {
		place, fault string
		live, blobs  int // less and more than without the fault
	}{
		{"6:c=", "missing", -1, -1},
		{"6:c=", "kind 3", 0, 0},
		{"6+1", "missing", -1, -1},
		{"6+1", "kind 1", 0, 0},
		{"4+2", "missing", -3, -1},
		{"4+2", "a byte more", -2, 0},
		{"0+4", "kind 2", -6, 0},
		{"0+4", "another label", 0, 0},
		{"0+1", "another version", 0, 0},
		{"5:head", "another label", 0, 0},
	} {
		r := alike(t, row.place+": "+row.fault, sceneOf(t, 7, map[string]string{row.place: row.fault}).lay())
		if r.Live-whole.Live != row.live || r.Blobs-whole.Blobs != row.blobs {
			t.Errorf("17.6: %s at %s: %v, without it %v", row.fault, row.place, numbers(r), numbers(whole))
		}
	}
}

// TestLiveIsMetOnce: what was met already is not looked at again, also where it was met as what it is not.
func TestLiveIsMetOnce(t *testing.T) {
	build := func(turned bool) *scene {
		s := &scene{shelf: newShelf(t, sector, sceneSpan, sceneCount)}
		inner := s.tree("", "a", "b", "c")
		odd := api.Tower{Key: []byte("a"), Value: inner.Addr} // needs a head as a value
		head := api.Tower{Head: true, Kids: []api.Kid{{Level: 1, Key: odd.Key, Count: 1, Label: node.Label(odd), Addr: s.blob(2, towerBytes(odd))}}}
		outer := treeOf(head, s.blob(2, towerBytes(head)))
		s.page.Last = 1
		s.page.Versions = []api.Version{{Number: 0, Tree: inner}, {Number: 1, Tree: outer}}
		if turned {
			s.page.Versions[0].Tree, s.page.Versions[1].Tree = outer, inner
		}
		s.page.Annal = s.annals(2)
		return s
	}
	r := alike(t, "first as what it is", build(false).lay())
	holds(t, "17.6: first as what it is", r, [6]int{1, 1, 7 + 2 + 3 + 1, 7 + 2 + 3, 7 + 2 + 3, 3}, of(api.ErrTree, 1))
	r = alike(t, "first as what it is not", build(true).lay())
	holds(t, "17.6: first as what it is not", r, [6]int{1, 1, 7 + 2 + 3 + 1, 7 + 2 + 3, 1 + 2 + 3, 3}, of(api.ErrTree, 0))
}

// TestLiveInItsOrder: towers that are met first as what they are or as what they are not, by the order of a tower's value and its kids.
func TestLiveInItsOrder(t *testing.T) {
	for _, row := range []struct {
		name string
		less int // blobs that are there and not met
		kids func(s *scene, x api.Kid) []api.Kid
	}{
		{"the higher kid has it as a value", 1, func(s *scene, x api.Kid) []api.Kid {
			return []api.Kid{s.kidOf(api.Tower{Key: []byte("c"), Value: x.Addr}), s.kidOf(api.Tower{Key: []byte("a"), Value: s.blob(1, nil), Kids: []api.Kid{x}})}
		}},
		{"the higher kid has it as a kid", 0, func(s *scene, x api.Kid) []api.Kid {
			return []api.Kid{s.kidOf(api.Tower{Key: []byte("c"), Value: s.blob(1, nil), Kids: []api.Kid{x}}), s.kidOf(api.Tower{Key: []byte("a"), Value: x.Addr})}
		}},
		{"a tower has it as both", 1, func(s *scene, x api.Kid) []api.Kid {
			return []api.Kid{s.kidOf(api.Tower{Key: []byte("c"), Value: x.Addr, Kids: []api.Kid{x}})}
		}},
	} {
		s := sceneWith(t, func(s *scene) []api.Kid { return row.kids(s, s.kid("", "d")) })
		r := alike(t, row.name, s.lay())
		finds(t, "17.5: "+row.name, r, of(api.ErrTree, 0))
		if r.Live != r.Blobs-row.less {
			t.Errorf("17.6: %s: %d of %d are live, want %d less", row.name, r.Live, r.Blobs, row.less)
		}
	}
}

// TestMixed: trees and annals in which much is not what it is needed for.
func TestMixed(t *testing.T) {
	less := 0
	for seed := range uint64(600) {
		s := &scene{shelf: newShelf(t, sector, sceneSpan, 2*sceneCount), mixed: noise(seed)}
		r := alike(t, fmt.Sprint("mixed ", seed), s.of(1+seed%16).lay())
		if r.Live < r.Blobs {
			less++
		}
	}
	if less < 300 {
		t.Errorf("17.6: in %d scenes something is not live", less)
	}
}
