package audit_test

import (
	"fmt"
	"testing"

	"witness/api"
	"witness/node"
)

// TestDigestsAreWeak: else what follows tells nothing.
func TestDigestsAreWeak(t *testing.T) {
	sums := map[api.Sum]int{}
	for i := range 10000 {
		sums[sum([]byte(fmt.Sprint(i)))]++
	}
	if len(sums) != 256 || !weak() {
		t.Fatalf("there are %d digests", len(sums))
	}
}

// alikeTo is a body of a kind that has that digest with it; what it says is made of any text.
func alikeTo(kind byte, want api.Sum, body func(text string) []byte) []byte {
	for i := 0; ; i++ {
		if b := body(fmt.Sprint("twin ", i)); sum([]byte{kind}, b) == want {
			return b
		}
	}
}

// bodies are bodies of each kind: a value, a tower, a leaf, a fork.
var bodies = map[byte]func(text string) []byte{
	1: func(text string) []byte { return []byte(text) },
	2: func(text string) []byte { return towerBytes(api.Tower{Key: []byte(text)}) },
	3: func(text string) []byte { return cat(leafBytes(api.Leaf{})[:1], padded(text, 32)) },
	4: func(text string) []byte { return padded(text, 130) },
}

func padded(text string, n int) []byte { return append([]byte(text), make([]byte, n-len(text))...) }

// TestTwinsAtOneAddress: of several frames with one address the last one counts, of one kind or of several, in the order of serials and not of segments.
func TestTwinsAtOneAddress(t *testing.T) {
	for text, kind := range map[string]byte{"a value": 1, "a tower": 2, "the leaf": 3, "a fork": 4} {
		for twin := byte(1); twin <= 4; twin++ {
			for _, first := range []bool{true, false} {
				what := fmt.Sprintf("%s, a twin of kind %d, which is first: %v", text, twin, first)
				s := sceneOf(t, 7, nil)
				clean := run(t, s.lay(), 2)
				s = sceneOf(t, 7, nil)
				a := map[byte]api.Addr{
					1: s.put["\x01"+valueOf("6:", "c")],
					2: s.page.Versions[2].Tree.Addr,
					3: s.page.Annal.Peaks[2].Limb.Addr,
					4: s.page.Annal.Peaks[0].Limb.Addr,
				}[kind]
				serial := uint64(500) // behind all others, but ahead of the page's
				if first {
					for i, x := range s.strips { // ahead of all others
						if x != nil {
							s.strips[i] = again(x, x.serial+600)
							s.serial = max(s.serial, x.serial+600)
						}
					}
				}
				s.beginWith(11, serial)
				s.serial = max(s.serial, 700)
				s.twin(twin, a.Nth, alikeTo(twin, a.Sum, bodies[twin]))
				s.begin(10)
				r := alike(t, what, s.lay())
				if r.Frames != clean.Frames+1 || r.Blobs != clean.Blobs {
					t.Errorf("17.4: %s: %v, without it %v", what, numbers(r), numbers(clean))
				}
				switch {
				case first || kind == 1 && twin == 1:
					finds(t, "17.4: "+what, r)
				case kind <= 2:
					finds(t, "17.5: "+what, r, of(api.ErrTree, 6))
				case kind == 3:
					finds(t, "17.7: "+what, r, of(api.ErrLeaf, 6))
				default:
					finds(t, "17.7: "+what, r, of(api.ErrLeaf, 0))
				}
			}
		}
	}
}

// TestForkOnItself: a fork whose limbs are itself, with labels that are right as far as one goes.
func TestForkOnItself(t *testing.T) {
	own := api.Addr{Sum: api.Sum{0x77}, Nth: 9}
	label := api.Sum{0x33}
	f := api.Fork{Left: api.Limb{Addr: own, Label: label}, Right: api.Limb{Addr: own}}
	for i := 0; sum([]byte{4}, forkBytes(f)) != own.Sum || sum([]byte{0x16}, label[:], f.Right.Label[:]) != label; i++ {
		copy(f.Right.Label[:], fmt.Sprint(i))
	}
	for _, size := range []uint64{2, 4, 64, last} {
		s := &scene{shelf: newShelf(t, sector, sceneSpan, sceneCount)}
		s.page.Last = size - 1
		s.page.Versions = []api.Version{{Number: size - 1, Tree: s.tree("")}}
		s.twin(4, own.Nth, forkBytes(f))
		s.page.Annal = api.Annal{Size: size, Peaks: []api.Peak{{Size: size, Limb: api.Limb{Addr: own, Label: label}}}}
		r := alike2(t, "a fork on itself", s.lay())
		holds(t, "17.9: a fork on itself", r, [6]int{1, 1, 3, 2, 2, 0}, of(api.ErrLeaf, 0))
	}
}

// TestTowersOnThemselves: towers that hang at themselves, and at one another, with counts and labels that are right.
func TestTowersOnThemselves(t *testing.T) {
	value := []byte("value")
	for _, keys := range [][]string{{"d"}, {"d", "f"}, {"d", "f", "b"}} {
		s := &scene{shelf: newShelf(t, sector, sceneSpan, sceneCount)}
		v := s.blob(1, value)
		addrOf := func(i int) api.Addr { return api.Addr{Sum: api.Sum{byte(100 + i)}, Nth: 9} }
		for i, key := range keys {
			next := keyOf(1, key) // the kid's key is above the tower's, whatever stands there
			k := api.Kid{Key: []byte(next), Count: 3, Addr: addrOf((i + 1) % len(keys))}
			tower := api.Tower{Key: []byte(key), Value: v, Kids: []api.Kid{k}}
			for j := 0; sum([]byte{2}, towerBytes(tower)) != addrOf(i).Sum; j++ {
				copy(tower.Kids[0].Label[:], fmt.Sprint(j))
			}
			if e := node.Valid(tower); e != api.OK {
				t.Fatalf("7.4: %d", e)
			}
			s.twin(2, 9, towerBytes(tower))
			if i == 0 {
				head := api.Tower{Head: true, Kids: []api.Kid{{Key: tower.Key, Count: 4, Label: node.Label(tower), Addr: addrOf(0)}}}
				s.page.Versions = []api.Version{{Tree: treeOf(head, s.blob(2, towerBytes(head)))}}
			}
		}
		s.page.Annal = s.annals(1)
		r := alike(t, "towers on themselves", s.lay())
		holds(t, "17.9: towers on themselves", r, [6]int{1, 1, 4 + len(keys), 3 + len(keys), 3 + len(keys), 0}, of(api.ErrTree, 0))
	}
}
