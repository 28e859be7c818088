package audit_test

import (
	"fmt"
	"slices"
	"testing"
	"time"

	"witness/api"
	"witness/disk"
	"witness/node"
)

// soon holds that the audits of a disk end within a bound that is generous for what is linear, and no bound at all for what is not.
func soon(t *testing.T, what string, d *disk.Disk) api.Report {
	t.Helper()
	told := make(chan api.Report)
	go func() {
		defer close(told) // also where the test is given up
		told <- alike2(t, what, d)
	}()
	select {
	case r := <-told:
		return r
	case <-time.After(30 * time.Second):
		t.Fatalf("17.9: %s: it does not end", what)
	}
	return api.Report{}
}

// leafLimb is a leaf that is put.
func (s *scene) leafLimb(l api.Leaf) api.Limb {
	s.t.Helper()
	return api.Limb{Addr: s.blob(3, leafBytes(l)), Label: sum([]byte{0x15}, long(l.Version), l.Label[:])}
}

// doubled is a part of which each fork has both limbs on the one below.
func (s *scene) doubled(l api.Limb, forks int) api.Limb {
	s.t.Helper()
	for range forks {
		l = s.fork(l, l)
	}
	return l
}

// TestManyLeaves: annals of 2^62 leaves made of 62 forks.
func TestManyLeaves(t *testing.T) {
	const window = 64
	for _, row := range []struct {
		name    string
		version uint64 // of the one leaf
		size    uint64
		hidden  uint64 // the first that is not shown
	}{
		{"the first version", 0, last, 1},
		{"the second version", 1, last, 0},
		{"the last version", last - 1, last, 0},
		{"a kept version", last - 40, last, 0},
		{"a version that is gone", last - 65, last, 0},
		{"the first version, and a leaf more", 0, last + 1, 1},
		{"the last version, and a leaf more", last - 1, last + 1, 0},
	} {
		s := &scene{shelf: newShelf(t, 512, 64, 2)}
		tree := s.tree("", "a", "b", "c")
		other := sum([]byte("another label"))
		peak := s.doubled(s.leafLimb(api.Leaf{Version: row.version, Label: other}), 62)
		s.page.Last = row.size - 1
		s.page.Annal = api.Annal{Size: row.size, Peaks: []api.Peak{{Size: last, Limb: peak}}}
		blobs := 7 + 1 + 62
		if row.size > last {
			s.page.Annal.Peaks = append(s.page.Annal.Peaks, api.Peak{Size: 1, Limb: s.leafLimb(api.Leaf{Version: last, Label: tree.Label})})
			blobs++
		}
		for i := range uint64(window) {
			s.page.Versions = append(s.page.Versions, api.Version{Number: row.size - window + i, Tree: tree})
		}
		r := soon(t, row.name, s.lay())
		want := []api.Finding{of(api.ErrLeaf, row.hidden)}
		if row.version >= row.size-window { // a kept version's leaf is shown, with another label than its tree's
			want = append(want, of(api.ErrLabel, row.version))
		}
		holds(t, "17.9: "+row.name, r, [6]int{1, 1, blobs + 1, blobs, blobs, window * 3}, want...)
	}
}

// TestManyShownLeaves: leaves that are all shown, up to a part that is not; the part stands in many places.
func TestManyShownLeaves(t *testing.T) {
	s := &scene{shelf: newShelf(t, 4096, 256, 4)}
	tree := s.tree("")
	label := func(uint64) api.Sum { return tree.Label }
	const shown = 1024
	first := s.limb(0, shown, label)
	for n := uint64(shown); n < last; n *= 2 { // what lies behind them is the same leaves again
		first = s.fork(first, first)
	}
	s.page.Last = last - 1
	s.page.Versions = []api.Version{{Number: last - 1, Tree: tree}}
	s.page.Annal = api.Annal{Size: last, Peaks: []api.Peak{{Size: last, Limb: first}}}
	r := soon(t, "1024 leaves", s.lay())
	finds(t, "17.9: 1024 leaves", r, of(api.ErrLeaf, shown))
}

// blockKey is a key of that height in a block.
func blockKey(block, height int) []byte {
	for i := 0; ; i++ {
		k := []byte{byte(block >> 8), byte(block), byte(height), byte(i >> 8), byte(i)}
		if node.Height(k) == height {
			return k
		}
	}
}

// kidOf is a tower that is put.
func (s *scene) kidOf(t api.Tower) api.Kid {
	s.t.Helper()
	if e := node.Valid(t); e != api.OK {
		s.t.Fatalf("7.4: the tower %x is not valid: %d", t.Key, e)
	}
	return api.Kid{Level: node.Height(t.Key) - 1, Key: t.Key, Count: node.Count(t), Label: node.Label(t), Addr: s.blob(2, towerBytes(t))}
}

// TestTowersInManyPlaces: blocks of towers, each of which hangs at all higher ones of the block ahead: there are more ways through them than one can go.
func TestTowersInManyPlaces(t *testing.T) {
	const blocks, heights = 150, 7
	s := &scene{shelf: newShelf(t, 4096, 256, 4)}
	value := s.blob(1, []byte("value"))
	var kids []api.Kid // of a block, from the highest level down
	for block := blocks; block > 0; block-- {
		var next []api.Kid
		for height := heights; height > 0; height-- {
			t := api.Tower{Key: blockKey(block, height), Value: value}
			if len(kids) > 0 {
				t.Kids = kids[heights-height:]
			}
			next = append(next, s.kidOf(t))
		}
		kids = next
		if len(s.page.Versions) < 63 || block == 1 {
			head := api.Tower{Head: true, Kids: kids}
			v := api.Version{Number: uint64(len(s.page.Versions)), Tree: treeOf(head, s.blob(2, towerBytes(head)))}
			s.page.Versions = append(s.page.Versions, v)
		}
	}
	if kids[0].Count < 1<<32 {
		t.Fatalf("there are %d ways", kids[0].Count)
	}
	s.page.Last = 63
	s.page.Annal = s.annals(64)
	r := soon(t, "towers in many places", s.lay())
	var want []api.Finding
	for number := uint64(1); number < 64; number++ { // the block at the end has nothing behind it, and is whole
		want = append(want, of(api.ErrTree, number))
	}
	finds(t, "17.9: towers in many places", r, want...)
	if r.Keys != heights || r.Live != r.Blobs {
		t.Errorf("17.5, 17.6: %v", numbers(r))
	}
}

// TestDeepTrees: a long chain of towers of one height, each the kid of the one ahead; whole, and damaged at its end.
func TestDeepTrees(t *testing.T) {
	for _, fault := range []string{"", "missing"} {
		const deep = 50000
		s := &scene{shelf: newShelf(t, 4096, 512, 4), faults: map[string]string{"end": fault}}
		value := s.blob(1, []byte("value"))
		tower := api.Tower{Value: s.blobAt("end", 1, []byte("another"))}
		for n := deep; n > 0; n-- {
			tower.Key = []byte{byte(n >> 16), byte(n >> 8), byte(n), 0}
			for node.Height(tower.Key) != 1 {
				tower.Key[3]++
			}
			k := api.Kid{Key: tower.Key, Count: node.Count(tower), Label: node.Label(tower), Addr: s.twin(2, 0, towerBytes(tower))}
			tower = api.Tower{Value: value, Kids: []api.Kid{k}}
		}
		head := api.Tower{Head: true, Kids: tower.Kids}
		s.page.Versions = []api.Version{{Tree: treeOf(head, s.blob(2, towerBytes(head)))}}
		s.page.Annal = s.annals(1)
		r := soon(t, "a deep tree", s.lay())
		if fault == "" {
			finds(t, "17.5: a deep tree", r)
		} else {
			finds(t, "17.5: a deep tree, damaged at its end", r, of(api.ErrTree, 0))
		}
		if want := uint64(deep); fault == "" && r.Keys != want || r.Live != r.Blobs {
			t.Errorf("17.5: %v, want %d keys", numbers(r), want)
		}
	}
}

// TestManyVersions: 64 versions that share nearly all of a great tree are read once, not 64 times.
func TestManyVersions(t *testing.T) {
	s := &scene{shelf: newShelf(t, 4096, 512, 4)}
	value := s.blob(1, []byte("value"))
	keys := []string{keyOf(2, "0")}
	for i := range 20000 {
		keys = append(keys, fmt.Sprint("1", i+100000))
	}
	kids := s.plant(keys, value)
	for i := range uint64(64) {
		own := s.plant([]string{keyOf(1, fmt.Sprint("/", i))}, value) // ahead of all others, and lower than the first of them
		head := api.Tower{Head: true, Kids: append(slices.Clone(kids), own...)}
		s.page.Versions = append(s.page.Versions, api.Version{Number: i, Tree: treeOf(head, s.blob(2, towerBytes(head)))})
	}
	s.page.Last = 63
	s.page.Annal = s.annals(64)
	r := soon(t, "many versions", s.lay())
	finds(t, "17.9: many versions", r)
	if r.Keys != 64*uint64(len(keys)+1) {
		t.Errorf("17.5: %d keys", r.Keys)
	}
}

// plant is the kids of a tower at which these keys hang, with one value.
func (s *scene) plant(keys []string, value api.Addr) []api.Kid {
	s.t.Helper()
	var l []api.Kid
	for len(keys) > 0 {
		height, end := node.Height([]byte(keys[0])), 1
		for end < len(keys) && node.Height([]byte(keys[end])) <= height {
			end++
		}
		tower := api.Tower{Key: []byte(keys[0]), Value: value, Kids: s.plant(keys[1:end], value)}
		k := api.Kid{Level: height - 1, Key: tower.Key, Count: node.Count(tower), Label: node.Label(tower), Addr: s.twin(2, 0, towerBytes(tower))}
		l = append([]api.Kid{k}, l...)
		keys = keys[end:]
	}
	return l
}
