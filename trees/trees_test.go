package trees_test

import (
	"testing"

	"witness/api"
	"witness/blobs"
	"witness/disk"
	"witness/node"
	"witness/segment"
	"witness/trees"
)

func answers(t *testing.T, what string, got, want api.Errno) {
	t.Helper()
	if got != want {
		t.Errorf("%s: %d, want %d", what, got, want)
	}
}

func newStore(t *testing.T) (*disk.Disk, *blobs.Blobs) {
	t.Helper()
	d, e := disk.New(2+64*4, 512)
	answers(t, "3.1: New", e, api.OK)
	l, e := segment.Open(d, 64, 0, make([]api.Mark, 4))
	answers(t, "5.2: Open", e, api.OK)
	b, e := blobs.Open(l)
	answers(t, "6.2: Open", e, api.OK)
	return d, b
}

func fresh(key, value string, kids ...trees.Tower) *trees.Made {
	return &trees.Made{Own: api.Tower{Key: []byte(key)}, Top: node.Height([]byte(key)) - 1, Fresh: true, Value: []byte(value), Kids: kids}
}

func head(kids ...trees.Tower) *trees.Made {
	return &trees.Made{Own: api.Tower{Head: true}, Top: api.MaxHeight - 1, Kids: kids}
}

// saved is the tree of a = 1, b = 2, c = 3.
func saved(t *testing.T, b *blobs.Blobs) api.Tree {
	t.Helper()
	x, e := trees.Save(b, head(fresh("c", "3"), fresh("a", "1", fresh("b", "2"))))
	answers(t, "8.5: Save", e, api.OK)
	return x
}

// TestSave holds what is saved against the map's root label, and the order of writing.
func TestSave(t *testing.T) {
	_, b := newStore(t)
	x := saved(t, b)
	label, _ := node.Root([]api.Entry{{Key: []byte("a"), Value: []byte("1")}, {Key: []byte("b"), Value: []byte("2")}, {Key: []byte("c"), Value: []byte("3")}})
	if x.Label != label || x.Count != 3 || b.Len() != 7 {
		t.Errorf("8.9: %d keys in %d blobs, with the label %x", x.Count, b.Len(), x.Label)
	}
	var kinds []byte
	for _, f := range b.Log().Frames(0) {
		kinds = append(kinds, f.Kind)
	}
	if string(kinds) != "\x01\x02\x01\x02\x01\x02\x02" {
		t.Errorf("8.5: the kinds of what is written are %v", kinds)
	}
	tower, e := trees.Head(b, x)
	answers(t, "8.2: Head", e, api.OK)
	y, e := trees.Save(b, head(trees.Stored{Kid: tower.Kids[0]}, trees.Stored{Kid: tower.Kids[1]}))
	answers(t, "8.5: Save of what is stored", e, api.OK)
	if y != x || b.Len() != 7 {
		t.Errorf("8.5: what is stored is saved as another tree, or anew")
	}
}

// TestWhatCannotStand: such towers are refused.
func TestWhatCannotStand(t *testing.T) {
	_, b := newStore(t)
	_, e := trees.Save(b, head(fresh("a", "1"), fresh("c", "3")))
	answers(t, "7.4: kids that do not fall", e, api.ErrKids)
	wrong := head()
	wrong.Own.Key = []byte("k")
	_, e = trees.Save(b, wrong)
	answers(t, "7.4: a head with a key", e, api.ErrTower)
}

// TestLoads: a tree, its kids and its values, as they fit and as they don't.
func TestLoads(t *testing.T) {
	d, b := newStore(t)
	x := saved(t, b)
	top, e := trees.Head(b, x)
	answers(t, "8.2: Head", e, api.OK)
	if trees.Of(top, x.Addr) != x {
		t.Errorf("8.2: the tree of the head is another one")
	}
	wrong := x
	wrong.Count++
	_, e = trees.Head(b, wrong)
	answers(t, "8.2: a head with another count", e, api.ErrTree)
	wrong = x
	wrong.Addr = top.Kids[0].Addr
	_, e = trees.Head(b, wrong)
	answers(t, "8.2: a tower that is no head", e, api.ErrTree)

	kid := top.Kids[1]
	tower, e := trees.Kid(b, kid)
	answers(t, "8.2: Kid", e, api.OK)
	if string(tower.Key) != "a" || len(tower.Kids) != 1 {
		t.Errorf("8.2: the kid's tower is %v", tower)
	}
	for what, change := range map[string]func(k *api.Kid){
		"key":     func(k *api.Kid) { k.Key = []byte("b") },
		"count":   func(k *api.Kid) { k.Count++ },
		"label":   func(k *api.Kid) { k.Label[0]++ },
		"address": func(k *api.Kid) { k.Addr.Nth++ },
		"tower":   func(k *api.Kid) { k.Addr = x.Addr },
	} {
		k := kid
		change(&k)
		_, e := trees.Kid(b, k)
		answers(t, "8.2: a kid with another "+what, e, api.ErrTree)
	}
	value, e := trees.Value(b, tower)
	if string(value) != "1" || e != api.OK || !trees.HasValue(b, tower, []byte("1")) || trees.HasValue(b, tower, []byte("2")) {
		t.Errorf("8.3: the value is %q, %d", value, e)
	}
	d.Fuse(0)
	d.Flush()
	_, e = trees.Head(b, x)
	answers(t, "8.2: Head without power", e, api.ErrPower)
	_, e = trees.Kid(b, kid)
	answers(t, "8.2: Kid without power", e, api.ErrPower)
	_, e = trees.Value(b, tower)
	answers(t, "8.2: Value without power", e, api.ErrPower)
	if trees.HasValue(b, tower, []byte("1")) {
		t.Errorf("8.5: a value that cannot be loaded is taken to be there")
	}
}

func TestUpTo(t *testing.T) {
	l := []trees.Tower{&trees.Made{Top: 5}, trees.Stored{Kid: api.Kid{Level: 3}}, &trees.Made{Top: 0}}
	for level, want := range []int{2, 2, 2, 1, 1, 0, 0} {
		if got := trees.UpTo(l, level); got != want {
			t.Errorf("UpTo the level %d is %d, want %d", level, got, want)
		}
	}
	if got := trees.UpTo(l[:2], 2); got != 2 {
		t.Errorf("UpTo of kids that are all higher is %d, want 2", got)
	}
}
