package audit_test

import (
	"bytes"
	"fmt"
	"math/rand/v2"
	"slices"
	"testing"

	"witness/api"
	"witness/node"
)

// scene is a shelf with trees and annals, with faults at some places; all that does not hang on a fault is right, labels and counts too.
type scene struct {
	*shelf
	faults map[string]string // by place
	mixed  *rand.Rand        // nil, or at many places stands what was put for others
}

// nowhere is an address at which nothing is.
func nowhere(place string) api.Addr { return api.Addr{Sum: sum([]byte(place)), Nth: 200} }

// blobAt is the address of a blob that is needed at a place, or of what stands there in its stead.
func (s *scene) blobAt(place string, kind byte, body []byte) api.Addr {
	s.t.Helper()
	if s.mixed != nil && s.mixed.IntN(5) == 0 && len(s.put) > 0 {
		s.blob(kind, body)
		l := s.addrs()
		return l[s.mixed.IntN(len(l))]
	}
	switch fault := s.faults[place]; fault {
	case "missing":
		return nowhere(place)
	case "another Nth":
		a := s.blob(kind, body)
		a.Nth += 100
		return a
	case "kind 1", "kind 2", "kind 3", "kind 4":
		return s.blob(fault[5]-'0', body)
	case "a byte more":
		return s.blob(kind, append(slices.Clone(body), 0))
	case "a byte less":
		return s.blob(kind, body[:len(body)-1])
	case "empty":
		return s.blob(kind, nil)
	}
	return s.blob(kind, body)
}

// kids are those of a tower at which these keys hang, in their order.
func (s *scene) kids(tree string, keys []string) []api.Kid {
	s.t.Helper()
	var l []api.Kid
	for len(keys) > 0 {
		height := node.Height([]byte(keys[0]))
		end := slices.IndexFunc(keys, func(k string) bool { return node.Height([]byte(k)) > height })
		if end < 0 {
			end = len(keys)
		}
		l = slices.Insert(l, 0, s.kid(tree, keys[0], s.kids(tree, keys[1:end])...))
		keys = keys[end:]
	}
	return l
}

// spoilt is a tower that is not valid, though codec reads it.
func spoilt(t api.Tower) api.Tower {
	k := api.Kid{Level: api.MaxHeight - 1, Key: append([]byte("~"), t.Key...), Count: 1}
	t.Kids = slices.Insert(slices.Clone(t.Kids), 0, k)
	return t
}

// other is a key of the same height just behind a key.
func other(key []byte) []byte {
	for i := 0; ; i++ {
		k := cat(key, []byte{0, byte(i >> 8), byte(i)})
		if node.Height(k) == node.Height(key) {
			return k
		}
	}
}

// valueOf is that of a key in a tree: some are in all trees.
func valueOf(tree, key string) string {
	if len(key)%2 == 0 || key < "c" {
		tree = ""
	}
	return "value of " + tree + key
}

// kid is a key with what hangs at it.
func (s *scene) kid(tree, key string, kids ...api.Kid) api.Kid {
	s.t.Helper()
	t := api.Tower{Key: []byte(key), Kids: kids, Value: s.blobAt(tree+key+"=", 1, []byte(valueOf(tree, key)))}
	place := tree + key
	k := api.Kid{Level: node.Height(t.Key) - 1, Key: t.Key}
	switch s.faults[place] {
	case "not valid":
		t = spoilt(t)
	case "another key":
		t.Key = other(t.Key)
	}
	k.Count, k.Label, k.Addr = node.Count(t), node.Label(t), s.blobAt(place, 2, towerBytes(t))
	switch s.faults[place] {
	case "another count":
		k.Count++
	case "another label":
		k.Label[31] ^= 1
	}
	return k
}

// treeOf is the tree of a head.
func treeOf(head api.Tower, a api.Addr) api.Tree {
	n := node.Count(head)
	return api.Tree{Addr: a, Count: n, Label: sum([]byte{0x14}, long(n), labelOf(head))}
}

// tree is a tree of these keys.
func (s *scene) tree(tree string, keys ...string) api.Tree {
	s.t.Helper()
	head := api.Tower{Head: true, Kids: s.kids(tree, keys)}
	place := tree + "head"
	switch s.faults[place] {
	case "not valid":
		head = spoilt(head)
		head.Kids[0].Level = 0
	case "no head":
		head.Head, head.Key, head.Value = false, []byte{}, s.blob(1, nil)
		head.Kids = nil
	}
	x := treeOf(head, s.blobAt(place, 2, towerBytes(head)))
	switch s.faults[place] {
	case "another count":
		x.Count++
		x.Label = sum([]byte{0x14}, long(x.Count), labelOf(head))
	case "another count alone":
		x.Count++
	case "another label":
		x.Label[31] ^= 1
	}
	return x
}

// limb is the part of the annals with n leaves from one on.
func (s *scene) limb(from, n uint64, label func(i uint64) api.Sum) api.Limb {
	s.t.Helper()
	place := partAt(from, n)
	var l api.Limb
	if n == 1 {
		leaf := api.Leaf{Version: from, Label: label(from)}
		if s.faults[place] == "another version" {
			leaf.Version++
		}
		l.Addr = s.blobAt(place, 3, leafBytes(leaf))
		l.Label = sum([]byte{0x15}, long(leaf.Version), leaf.Label[:])
	} else {
		f := api.Fork{Left: s.limb(from, n/2, label), Right: s.limb(from+n/2, n/2, label)}
		l.Addr = s.blobAt(place, 4, forkBytes(f))
		l.Label = sum([]byte{0x16}, f.Left.Label[:], f.Right.Label[:])
	}
	if s.faults[place] == "another label" {
		l.Label[31] ^= 1
	}
	return l
}

func partAt(from, n uint64) string { return fmt.Sprintf("%d+%d", from, n) }

// annals are the annals of n leaves with the labels of the kept versions; of the others with any.
func (s *scene) annals(n uint64) api.Annal {
	s.t.Helper()
	a := api.Annal{Size: n}
	label := func(i uint64) api.Sum {
		for _, v := range s.page.Versions {
			if v.Number == i {
				return v.Tree.Label
			}
		}
		return sum(long(i))
	}
	from := uint64(0)
	for _, size := range powers(n) {
		a.Peaks = append(a.Peaks, api.Peak{Size: size, Limb: s.limb(from, size, label)})
		from += size
	}
	return a
}

// keysOf are the keys of the trees of a scene: towers of the heights 1 to 6.
var keysOf = []string{"", "a", "b", "c", "d", "e", "f", "g", "i", "j", "k"}

// A scene's segments: so small that it has several of them.
const (
	sceneSpan  = 16
	sceneCount = 12
	sceneBytes = sceneSpan * sector
)

// sceneOf is a scene of so many leaves, of which the last three versions are kept; each has a key more than the one ahead.
func sceneOf(t *testing.T, leaves uint64, faults map[string]string) *scene {
	t.Helper()
	return (&scene{shelf: newShelf(t, sector, sceneSpan, sceneCount), faults: faults}).of(leaves)
}

func (s *scene) of(leaves uint64) *scene {
	s.t.Helper()
	kept := min(leaves, 3)
	for i := leaves - kept; i < leaves; i++ {
		tree := fmt.Sprint(i, ":")
		keys := keysOf[:len(keysOf)-int(leaves-1-i)]
		s.page.Versions = append(s.page.Versions, api.Version{Number: i, Tree: s.tree(tree, keys...)})
	}
	s.page.Last = leaves - 1
	s.page.Annal = s.annals(leaves)
	return s
}

// TestScene: without faults a scene is clean, and no two of its keys have it easy: there are kids at many levels.
func TestScene(t *testing.T) {
	heights := map[int]bool{}
	for _, k := range keysOf {
		heights[node.Height([]byte(k))] = true
	}
	if len(heights) < 5 || !slices.IsSortedFunc(keysOf, func(a, b string) int { return bytes.Compare([]byte(a), []byte(b)) }) {
		t.Errorf("7.1: heights %v of %v", heights, keysOf)
	}
	for leaves := uint64(1); leaves < 20; leaves++ {
		r := alike(t, fmt.Sprint(leaves, " leaves"), sceneOf(t, leaves, nil).lay())
		finds(t, "17.5, 17.7", r)
		keys := uint64(0)
		for i := range min(3, int(leaves)) {
			keys += uint64(len(keysOf) - i)
		}
		if r.Keys != keys || r.Blobs != r.Live || leaves > 2 && r.Segments < 3 {
			t.Errorf("17.5: %d leaves: %v, want %d keys", leaves, r, keys)
		}
	}
}
