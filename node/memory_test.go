package node_test

import (
	"bytes"
	"fmt"
	"reflect"
	"sync"
	"testing"

	"witness/api"
	"witness/node"
)

// roomy is a text with spare room, in which something stands.
func roomy(text string) []byte {
	b := append([]byte(text), "spare"...)
	return b[:len(text)]
}

func roomyTower() api.Tower {
	t := tower(lowest, kid("v1986511", 5), kid("c1", 3), kid("a2", 1), kid("spare", 9))
	t.Key = roomy(lowest)
	for i := range t.Kids {
		t.Kids[i].Key = roomy(string(t.Kids[i].Key))
	}
	t.Kids = t.Kids[:3]
	return t
}

func roomyEntries() []api.Entry {
	l := entries("a", "1", "b", "2", "c", "3", "spare", "9")
	for i := range l {
		l[i].Key, l[i].Value = roomy(string(l[i].Key)), roomy(string(l[i].Value))
	}
	return l[:3]
}

// whole is all that can be reached from a value, spare room included.
func whole(parts ...[]byte) string {
	var s string
	for _, b := range parts {
		s += fmt.Sprintf("%q,", b[:cap(b)])
	}
	return s
}

func wholeTower(t api.Tower) string {
	s := fmt.Sprint(t.Head, t.Value, whole(t.Key))
	for _, k := range t.Kids[:cap(t.Kids)] {
		s += fmt.Sprint(k.Level, k.Count, k.Addr, k.Label, whole(k.Key))
	}
	return s
}

func wholeEntries(l []api.Entry) string {
	var s string
	for _, e := range l[:cap(l)] {
		s += whole(e.Key, e.Value)
	}
	return s
}

func TestNothingHandedInIsChanged(t *testing.T) {
	s := newStore(t)
	in, want := roomyTower(), wholeTower(roomyTower())
	for what, call := range map[string]func(){
		"Height":   func() { node.Height(in.Key) },
		"LeafText": func() { node.LeafText(in.Key, in.Value.Sum) },
		"PairText": func() { node.PairText(in.Kids[0], api.Sum{}) },
		"Own":      func() { node.Own(in) },
		"Below":    func() { node.Below(in, 2) },
		"Label":    func() { node.Label(in) },
		"Count":    func() { node.Count(in) },
		"Valid":    func() { node.Valid(in) },
		"Save":     func() { node.Save(s.b, in) },
	} {
		if call(); wholeTower(in) != want {
			t.Fatalf("0.4: %s has changed what was handed in to %s", what, wholeTower(in))
		}
	}
	l := roomyEntries()
	want = wholeEntries(l)
	if node.Root(l); wholeEntries(l) != want {
		t.Errorf("0.4: Root has changed what was handed in to %s", wholeEntries(l))
	}
}

// spoil writes over all that can be reached from a text.
func spoil(b []byte) {
	for i := range b[:cap(b)] {
		b[:cap(b)][i] = '#'
	}
}

func spoilTower(t api.Tower) {
	spoil(t.Key)
	kids := t.Kids[:cap(t.Kids)]
	for i := range kids {
		spoil(kids[i].Key)
		kids[i] = api.Kid{Level: 99}
	}
}

func TestNothingHandedInIsKept(t *testing.T) {
	s := newStore(t)
	in := roomyTower()
	a := s.saves(t, "a tower", in)
	spoilTower(in)
	s.loads(t, "behind a change of what was saved", a, roomyTower())
}

func TestWhatIsHandedOutIsNew(t *testing.T) {
	s := newStore(t)
	a := s.saves(t, "a tower", roomyTower())
	first, _ := node.Load(s.b, a)
	second, _ := node.Load(s.b, a)
	spoil(first.Key)
	for i := range first.Kids {
		for j := range first.Kids {
			if key := roomyTower().Kids[j].Key; j >= i && !bytes.Equal(first.Kids[j].Key, key) {
				t.Errorf("0.4: the key of kid %d shares memory with another one: %q", j, first.Kids[j].Key)
			}
		}
		spoil(first.Kids[i].Key)
	}
	spoilTower(first)
	if !sameTower(second, roomyTower()) {
		t.Errorf("0.4: two answers of Load share memory: %v", second)
	}
	s.loads(t, "behind a change of what was loaded", a, roomyTower())

	key := roomy("key")
	for what, text := range map[string]func() []byte{
		"LeafText": func() []byte { return node.LeafText(key, fill('v')) },
		"HeadText": node.HeadText,
		"PairText": func() []byte { return node.PairText(api.Kid{Key: key}, fill('b')) },
		"RootText": func() []byte { return node.RootText(5, fill('h')) },
	} {
		one, two := text(), text()
		want := bytes.Clone(two)
		spoil(one)
		isText(t, "0.4: "+what+" of another call", two, want)
		isText(t, "0.4: "+what+" again", text(), want)
		isText(t, "0.4: the key", key[:cap(key)][:8], []byte("keyspare"))
	}
}

func TestManyAtOneTime(t *testing.T) {
	s := newStore(t)
	tower := roomyTower()
	a := s.saves(t, "a tower", tower)
	l := roomyEntries()
	told := func() []any {
		root, e := node.Root(l)
		loaded, f := node.Load(s.b, a)
		return []any{root, e, wholeTower(loaded) != "", f, node.Label(tower), node.Below(tower, 2), node.Count(tower), node.Valid(tower), node.Height(tower.Key)}
	}
	want := told()
	var group sync.WaitGroup
	for range 8 {
		group.Go(func() {
			for range 20 {
				if got := told(); !reflect.DeepEqual(got, want) {
					t.Errorf("0.5: with others at the same time it is %v, and it was %v", got, want)
				}
			}
		})
	}
	group.Wait()
}
