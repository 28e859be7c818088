package extract_test

import (
	"fmt"
	"slices"
	"strings"
	"testing"

	"witness/api"
)

// forget lets a blob be there no more.
func (s store) forget(a api.Addr) {
	s.t.Helper()
	var l []api.Addr
	for other := range s.b.Each() {
		if other != a {
			l = append(l, other)
		}
	}
	if n := s.b.Keep(l); n != 1 {
		s.t.Fatalf("6.7: Keep forgets %d", n)
	}
}

func distinct(l []api.Addr) []api.Addr {
	l = slices.Clone(l)
	slices.SortFunc(l, func(a, b api.Addr) int { return slices.Compare(a.Sum[:], b.Sum[:]) })
	return slices.Compact(l)
}

// needs is what a walk needs: the towers that it comes to, and the values that it tells.
func (w *walk) needs() map[api.Addr]bool {
	needs := map[api.Addr]bool{}
	for _, t := range w.came {
		needs[towerAddr(t)] = true
		if !t.Head && lies(w.in, string(t.Key)) {
			needs[t.Value] = true
		}
	}
	return needs
}

// TestBlobsThatCannotBeHad, each of them, damaged and forgotten: what is needed is missed, and what is not needed is not looked at.
func TestBlobsThatCannotBeHad(t *testing.T) {
	n := &noise{x: 30}
	for _, m := range []map[string]string{three(), garden(), fan(true), chain(8), n.chance(14)} {
		p := planOf(m)
		l := spansOf(bounds(m))
		for i, lost := range distinct(p.blobs) {
			s := wide(t)
			x := s.planted(m)
			if i%2 == 0 {
				s.turn(lost)
			} else {
				s.forget(lost)
			}
			missed := 0
			for _, in := range append(some(n, l, 16), all, only(p.keys[n.below(len(p.keys))])) {
				w := p.walk(in)
				proof := proofBytes(w.proof())
				if w.needs()[lost] {
					missed++
					s.dishonest("a blob that cannot be had", x, in, api.ErrTree)
					s.gives("a blob that cannot be had", x, in, proof, api.ErrTree)
				} else {
					s.honest("a blob that is not needed", x, w)
					s.gives("a blob that is not needed", x, in, proof, api.ErrHonest)
				}
			}
			if missed == 0 {
				t.Errorf("the blob %s was never missed", front(lost.Sum))
			}
			if t.Failed() {
				t.Fatalf("the blob %s is lost", front(lost.Sum))
			}
		}
	}
}

// TestAllElseIsLost: the texts need just what the walk comes to.
func TestAllElseIsLost(t *testing.T) {
	n := &noise{x: 31}
	m := garden()
	p := planOf(m)
	for _, in := range some(n, spansOf(bounds(m)), 40) {
		s := wide(t)
		x := s.planted(m)
		w := p.walk(in)
		var kept []api.Addr
		for a := range w.needs() {
			kept = append(kept, a)
		}
		s.b.Keep(kept)
		s.honest("a store with nothing else", x, w)
	}
}

// TestThePowerIsGone: ErrPower is told as it is, behind what verify says of a proof.
func TestThePowerIsGone(t *testing.T) {
	s := wide(t)
	m := garden()
	x, p := s.planted(m), planOf(m)
	s.off()
	for _, in := range []api.Span{all, span("2", "8"), from("zz"), span("", "\x00"), only("3"), only("")} {
		proof := proofBytes(p.proof(in))
		s.dishonest("the power is gone", x, in, api.ErrPower)
		s.gives("the power is gone", x, in, proof, api.ErrPower)
		s.gives("the power is gone, and a byte of the proof", x, in, proof[:len(proof)-1], api.ErrShort)
		tells(t, "the power is gone", in, p.proof(in), p.walk(in).texts)
	}
	s.dishonest("a tree that is not there", api.Tree{}, all, api.ErrTree)
	s.on()
	for _, in := range []api.Span{all, span("2", "8"), from("zz")} {
		s.honest("the power is back", x, p.walk(in))
	}
}

// TestThePowerAndATower: a head that is there is looked for first.
func TestThePowerAndATower(t *testing.T) {
	s := wide(t)
	x := s.planted(three())
	s.forget(towerAddr(planOf(three()).towers["a"]))
	s.off()
	s.dishonest("the power is gone, and a tower", x, all, api.ErrPower)
	s.on()
	s.dishonest("a tower is gone", x, all, api.ErrTree)
	s.honest("a tower is gone that is not needed", x, planOf(three()).walk(from("x")))
}

// TestTreesThatDoNotFit: another count, label or address than the head's.
func TestTreesThatDoNotFit(t *testing.T) {
	s := wide(t)
	m := garden()
	x, p := s.planted(m), planOf(m)
	other := s.planted(mapOf("a", "1"))
	for what, change := range map[string]func(x *api.Tree){
		"one key more":            func(x *api.Tree) { x.Count++ },
		"one key less":            func(x *api.Tree) { x.Count-- },
		"no keys":                 func(x *api.Tree) { x.Count = 0 },
		"another label":           func(x *api.Tree) { x.Label[31]++ },
		"no label":                func(x *api.Tree) { x.Label = api.Sum{} },
		"the label of another":    func(x *api.Tree) { x.Label = other.Label },
		"the address of another":  func(x *api.Tree) { x.Addr = other.Addr },
		"an address of none":      func(x *api.Tree) { x.Addr.Sum[0]++ },
		"another Nth":             func(x *api.Tree) { x.Addr.Nth++ },
		"the address of a tower":  func(x *api.Tree) { x.Addr = p.head.Kids[0].Addr },
		"the address of a value":  func(x *api.Tree) { x.Addr = p.towers[p.keys[0]].Value },
		"nothing":                 func(x *api.Tree) { *x = api.Tree{} },
		"the head's label itself": func(x *api.Tree) { x.Label = labelOf(p.head) },
	} {
		wrong := x
		change(&wrong)
		for _, in := range []api.Span{all, span("2", "8"), from("zz"), span("", "\x00"), only("3")} {
			s.dishonest("a tree with "+what, wrong, in, api.ErrTree)
			want := api.ErrTree
			if wrong.Label != x.Label {
				want = api.ErrLabel // that verify does not take the proof is told ahead of it
			}
			s.gives("a tree with "+what, wrong, in, proofBytes(p.proof(in)), want)
		}
	}
	for what, head := range map[string]api.Tower{
		"a key for a head": {Key: []byte("k"), Value: s.value("v")},
		"kids that rise":   {Head: true, Kids: []api.Kid{s.tower("a"), s.tower("c")}},
	} {
		wrong := treeOf(head)
		wrong.Addr = s.put(api.KindTower, recordOf(head))
		s.dishonest(what, wrong, all, api.ErrTree)
		s.dishonest(what, wrong, from("zz"), api.ErrTree)
	}
	noRecord := api.Tree{Addr: s.put(api.KindTower, []byte("no tower")), Label: planOf(nil).tree.Label}
	s.dishonest("a blob that is no tower", noRecord, all, api.ErrTree)
	s.honest("the tree itself", x, p.walk(all))
}

// TestKidsThatDoNotFit: one that the walk goes into is held against its tower; of one that it does not go into there stands what its tower's parent says.
func TestKidsThatDoNotFit(t *testing.T) {
	twoOf := keysOf(2, 2, "m")
	for what, change := range map[string]func(s store, k *api.Kid){
		"another key":     func(s store, k *api.Kid) { k.Key = []byte(twoOf[1]) },
		"another count":   func(s store, k *api.Kid) { k.Count += 2 },
		"another label":   func(s store, k *api.Kid) { k.Label[0]++ },
		"no tower":        func(s store, k *api.Kid) { k.Addr.Sum[31]++ },
		"another Nth":     func(s store, k *api.Kid) { k.Addr.Nth++ },
		"another's tower": func(s store, k *api.Kid) { k.Addr = s.tower(twoOf[1]).Addr },
		"a value":         func(s store, k *api.Kid) { k.Addr = s.value("v") },
		"the head":        func(s store, k *api.Kid) { k.Addr = s.tree().Addr },
		"no record":       func(s store, k *api.Kid) { k.Addr = s.put(api.KindTower, []byte{0, 1}) },
	} {
		s := wide(t)
		inner, high := s.tower("n"), s.tower("x6405031")
		wrong := s.tower(twoOf[0], s.tower(keysOf(1, 1, "mz")[0]))
		change(s, &wrong)
		if heightOf("n") <= 2 {
			t.Fatalf("the key n has the height %d", heightOf("n"))
		}
		x := s.tree(high, inner, wrong)
		key := string(wrong.Key)
		for _, in := range []api.Span{all, from("a"), span("a", "o"), span(key, "o"), only(key), span(key+"\x00", "n")} {
			s.dishonest("a kid with "+what, x, in, api.ErrTree)
		}
		for _, in := range []api.Span{span("", "a"), span("a", key), from("n"), from("zz"), span("n", "o"), span("", "\x00")} {
			s.honest("a kid with "+what+" that stays, or lies ahead", x, s.walk(x, in))
		}
	}
}

// TestValuesThatDoNotFit: they are asked for where they are told, and there alone.
func TestValuesThatDoNotFit(t *testing.T) {
	s := wide(t)
	for what, value := range map[string]api.Addr{
		"an address of none": {Sum: api.Sum{1}},
		"another Nth":        {Sum: s.value("v").Sum, Nth: 1},
		"a tower":            s.tower("k").Addr,
		"a leaf":             s.put(api.KindLeaf, []byte("leaf")),
	} {
		x := s.tree(s.laid(api.Tower{Key: []byte("c"), Value: value}), s.tower("a"))
		for _, in := range []api.Span{all, span("b", "d"), only("c"), from("c")} {
			s.dishonest("a value that is "+what, x, in, api.ErrTree)
		}
		for _, in := range []api.Span{span("", "c"), from("c\x00"), only("d"), only("a")} {
			s.honest("a value that is "+what, x, s.walk(x, in))
		}
	}
	long := s.tree(s.laid(api.Tower{Key: []byte("c"), Value: s.value(strings.Repeat("v", api.MaxValue+1))}))
	s.honest("a value above its bound", long, s.walk(long, all))
}

// TestTreesByHand: where all that the walk goes into fits, the texts are those of the walk, also of towers that hang where no map has them.
func TestTreesByHand(t *testing.T) {
	keys := slices.Concat(keysOf(1, 5, "a"), keysOf(2, 3, "a"), keysOf(3, 2, "b"), keysOf(1, 4, "c"), keysOf(4, 2, "c"))
	slices.Sort(keys)
	n := &noise{x: 33}
	twice := 0
	for round := 0; round < 120 && !t.Failed(); round++ {
		s := wide(t)
		var kids []api.Kid
		for _, key := range slices.Backward(keys) {
			left := slices.Clone(kids)
			kids = append(kids, s.tower(key, n.kids(left, key, heightOf(key))...))
		}
		x := s.tree(n.kids(kids, "", 24)...)
		if came := s.walk(x, all).came; len(came) > len(distinct(addrsOf(came))) {
			twice++
		}
		for _, in := range []api.Span{all, from("b"), span("a", "c"), span(keys[3], keys[9]), only(keys[n.below(len(keys))])} {
			w := s.walk(x, in)
			s.honest("a tree by hand", x, w)
			if texts, e := rightly(in, proofBytes(w.proof())); e == api.OK {
				tells(t, "a tree by hand", in, w.proof(), texts)
				s.gives("a tree by hand", x, in, proofBytes(w.proof()), api.ErrHonest)
			} else {
				s.gives("a tree by hand, of which there is no proof", x, in, proofBytes(w.proof()), e)
			}
		}
	}
	if twice < 20 {
		t.Errorf("only %d of the walks came to a tower twice", twice)
	}
}

// kids are some of those that are left, such as a tower can have; what hangs at them may lie anywhere.
func (n *noise) kids(left []api.Kid, key string, height int) []api.Kid {
	var l []api.Kid
	level, bound := height-1, "\xff"
	for range 6 {
		if len(left) == 0 {
			break
		}
		k := left[n.below(len(left))]
		if k.Level <= level && string(k.Key) < bound && string(k.Key) > key {
			l = append(l, k)
			level, bound = k.Level-1, string(k.Key)
		}
	}
	return l
}

func addrsOf(towers []api.Tower) []api.Addr {
	var l []api.Addr
	for _, t := range towers {
		l = append(l, towerAddr(t))
	}
	return l
}

// pair is a tree at whose head two towers hang, b and x, with one and the same kid: the first of a row of towers that hang at one another.
func (s store) pair(row int) api.Tree {
	s.t.Helper()
	alike := func(key string, kids ...api.Kid) api.Kid {
		return s.laid(api.Tower{Key: []byte(key), Value: s.value("v"), Kids: kids})
	}
	var hang []api.Kid
	for i := row; i > 0; i-- {
		hang = []api.Kid{alike(keysOf(1, 1, fmt.Sprintf("y%02d", i))[0], hang...)}
	}
	return s.tree(alike(keysOf(2, 1, "x")[0], hang...), alike(keysOf(1, 1, "b")[0], hang...))
}

// TestOneTowerHangsAtTwo: the walk comes to it twice, and its texts come twice, however few blobs there are.
func TestOneTowerHangsAtTwo(t *testing.T) {
	for _, row := range []int{1, 2, 3, 7, 20} {
		s := wide(t)
		x := s.pair(row)
		if texts := s.walk(x, all).texts; x.Count != uint64(2*row+2) || len(texts) != 1+4*row+5+2*row+2 {
			t.Fatalf("%d in the row: the walk has %d texts of %d keys", row, len(texts), x.Count)
		}
		for _, in := range []api.Span{all, from("b"), from("c"), from("y"), from("z"), span("", "c"), span("b", "y02"), only("b"), only("y01")} {
			w := s.walk(x, in)
			s.honest(fmt.Sprintf("%d in the row", row), x, w)
			_, e := rightly(in, proofBytes(w.proof()))
			if e == api.OK {
				e = api.ErrHonest
			}
			s.gives(fmt.Sprintf("%d in the row", row), x, in, proofBytes(w.proof()), e)
		}
		towers := s.walk(x, all).came
		s.turn(towerAddr(towers[len(towers)-1]))
		s.dishonest("the row's last tower is damaged", x, all, api.ErrTree)
		s.honest("the row's last tower is damaged, and not needed", x, s.walk(x, span("", "c")))
	}
}

// thicket is towers that hang together in more ways than there are blobs by far.
func (s store) thicket(rows int) api.Tree {
	s.t.Helper()
	var last []api.Kid
	for row := rows; row > 0; row-- {
		var kids []api.Kid
		for level := range 9 {
			var below []api.Kid
			if last != nil {
				below = slices.Clone(last[:level+1])
				slices.Reverse(below)
			}
			kids = append(kids, s.tower(keysOf(level+1, 1, fmt.Sprintf("%02d%d", row, level))[0], below...))
		}
		last = kids
	}
	slices.Reverse(last)
	return s.tree(last...)
}

// TestThickets: the texts come as often as the walk comes to them; and of one that none could come through, what the walk does not go into is not looked at.
func TestThickets(t *testing.T) {
	s := wide(t)
	x := s.thicket(5)
	if came := len(s.walk(x, all).came); came < 10*s.b.Len() {
		t.Fatalf("the walk comes to %d towers, and there are %d blobs", came, s.b.Len())
	}
	for _, in := range []api.Span{all, from("02"), span("01", "04"), from("zz"), only("03")} {
		s.honest("a thicket", x, s.walk(x, in))
	}
	s = wide(t)
	x = s.thicket(30)
	if x.Count < 1<<26 {
		t.Fatalf("the tree has only %d keys", x.Count)
	}
	for _, in := range []api.Span{span("", "0"), from("zz"), span("30", "31"), only("15")} {
		w := s.walk(x, in)
		s.honest("the edge of a thicket", x, w)
		_, e := rightly(in, proofBytes(w.proof()))
		if e == api.OK {
			e = api.ErrHonest
		}
		s.gives("the edge of a thicket", x, in, proofBytes(w.proof()), e)
	}
	s.gives("a thicket, of which no proof is taken", x, all, []byte{0, 3}, api.ErrLabel)
	s.gives("a thicket, of which no proof is taken", x, all, nil, api.ErrShort)
}
