package prove_test

import (
	"fmt"
	"slices"
	"strings"
	"testing"

	"witness/api"
	"witness/blobs"
	"witness/prove"
)

// forget lets a blob be there no more.
func (s store) forget(a api.Addr) {
	s.t.Helper()
	var l []api.Addr
	for other := range s.b.Each() {
		if other != a {
			l = append(l, other)
		}
	}
	if n := s.b.Keep(l); n != 1 {
		s.t.Fatalf("6.7: Keep forgets %d", n)
	}
}

func distinct(l []api.Addr) []api.Addr {
	l = slices.Clone(l)
	slices.SortFunc(l, func(a, b api.Addr) int { return slices.Compare(a.Sum[:], b.Sum[:]) })
	return slices.Compact(l)
}

// needs is what a walk needs: the towers that it comes to, and the values that it tells.
func (w *walk) needs() map[api.Addr]bool {
	needs := map[api.Addr]bool{}
	for _, t := range w.came {
		needs[towerAddr(t)] = true
		if !t.Head && lies(w.in, string(t.Key)) {
			needs[t.Value] = true
		}
	}
	return needs
}

// TestBlobsThatCannotBeHad, each of them, damaged and forgotten: what is needed is missed, and what is not needed is not looked at.
func TestBlobsThatCannotBeHad(t *testing.T) {
	n := &noise{x: 30}
	for _, m := range []map[string]string{mapOf("a", "1", "b", "2", "c", "3"), garden(), fan(true), chain(8), n.chance(14)} {
		p := planOf(m)
		l := spansOf(bounds(m))
		for i, lost := range distinct(p.blobs) {
			s := wide(t)
			x := s.planted(m)
			if i%2 == 0 {
				s.turn(lost)
			} else {
				s.forget(lost)
			}
			missed := 0
			for _, in := range append(some(n, l, 25), all, prove.Only([]byte(p.keys[n.below(len(p.keys))]))) {
				w := p.walk(in)
				if w.needs()[lost] {
					missed++
					s.fails("a blob that cannot be had", x, in, api.ErrTree)
				} else {
					s.proves("a blob that is not needed", x, in, api.Proof{Count: x.Count, Ops: w.ops})
				}
			}
			if missed == 0 {
				t.Errorf("the blob %s was never missed", front(lost.Sum))
			}
			if t.Failed() {
				t.Fatalf("the blob %s is lost", front(lost.Sum))
			}
		}
	}
}

// TestAllElseIsLost: the proof needs just what the walk comes to.
func TestAllElseIsLost(t *testing.T) {
	n := &noise{x: 31}
	m := garden()
	p := planOf(m)
	for _, in := range some(n, spansOf(bounds(m)), 60) {
		s := wide(t)
		x := s.planted(m)
		w := p.walk(in)
		var kept []api.Addr
		for a := range w.needs() {
			kept = append(kept, a)
		}
		s.b.Keep(kept)
		s.proves("a store with nothing else", x, in, api.Proof{Count: x.Count, Ops: w.ops})
	}
}

// TestThePowerIsGone: ErrPower is told as it is.
func TestThePowerIsGone(t *testing.T) {
	s := wide(t)
	m := garden()
	x, p := s.planted(m), planOf(m)
	s.off()
	for _, in := range []api.Span{all, span("2", "8"), from("zz"), span("", "\x00"), prove.Only([]byte("3")), prove.Only(nil)} {
		s.fails("the power is gone", x, in, api.ErrPower)
	}
	s.fails("a tree that is not there", api.Tree{}, all, api.ErrTree)
	s.on()
	for _, in := range []api.Span{all, span("2", "8"), from("zz")} {
		s.holds(x, p, m, in)
	}
}

// TestTreesThatDoNotFit: another count, label or address than the head's.
func TestTreesThatDoNotFit(t *testing.T) {
	s := wide(t)
	m := garden()
	x, p := s.planted(m), planOf(m)
	other := s.planted(mapOf("a", "1"))
	for what, change := range map[string]func(x *api.Tree){
		"one key more":            func(x *api.Tree) { x.Count++ },
		"one key less":            func(x *api.Tree) { x.Count-- },
		"no keys":                 func(x *api.Tree) { x.Count = 0 },
		"another label":           func(x *api.Tree) { x.Label[31]++ },
		"no label":                func(x *api.Tree) { x.Label = api.Sum{} },
		"the label of another":    func(x *api.Tree) { x.Label = other.Label },
		"the address of another":  func(x *api.Tree) { x.Addr = other.Addr },
		"an address of none":      func(x *api.Tree) { x.Addr.Sum[0]++ },
		"another Nth":             func(x *api.Tree) { x.Addr.Nth++ },
		"the address of a tower":  func(x *api.Tree) { x.Addr = p.head.Kids[0].Addr },
		"the address of a value":  func(x *api.Tree) { x.Addr = p.towers[p.keys[0]].Value },
		"nothing":                 func(x *api.Tree) { *x = api.Tree{} },
		"the head's label itself": func(x *api.Tree) { x.Label = labelOf(p.head) },
	} {
		wrong := x
		change(&wrong)
		for _, in := range []api.Span{all, span("2", "8"), from("zz"), span("", "\x00"), prove.Only([]byte("3"))} {
			s.fails("a tree with "+what, wrong, in, api.ErrTree)
		}
	}
	for what, head := range map[string]api.Tower{
		"a key for a head": {Key: []byte("k"), Value: s.value("v")},
		"kids that rise":   {Head: true, Kids: []api.Kid{s.tower("a"), s.tower("c")}},
	} {
		wrong := treeOf(head)
		wrong.Addr = s.put(api.KindTower, recordOf(head))
		s.fails(what, wrong, all, api.ErrTree)
		s.fails(what, wrong, from("zz"), api.ErrTree)
	}
	noRecord := api.Tree{Addr: s.put(api.KindTower, []byte("no tower")), Label: planOf(nil).tree.Label}
	s.fails("a blob that is no tower", noRecord, all, api.ErrTree)
	s.holds(x, p, m, all)
}

// TestNoBlobs: where there are none there is no tree.
func TestNoBlobs(t *testing.T) {
	x := planOf(mapOf("a", "1")).tree
	for _, b := range []*blobs.Blobs{nil, {}} {
		if p, e := prove.Ops(b, x, all); p.Ops != nil || e != api.ErrTree {
			t.Errorf("0.1: Ops without blobs: %s, %d", toldProof(p), e)
		}
		if l, e := prove.Span(b, x, all); l != nil || e != api.ErrTree {
			t.Errorf("0.1: Span without blobs: %x, %d", l, e)
		}
		if l, e := prove.Key(b, x, nil); l != nil || e != api.ErrTree {
			t.Errorf("0.1: Key without blobs: %x, %d", l, e)
		}
		if n, e := prove.Size(b, x, span("b", "a")); n != 0 || e != api.ErrBounds {
			t.Errorf("0.1: Size without blobs: %d, %d", n, e)
		}
	}
}

// TestKidsThatDoNotFit: one that the walk goes into is held against its tower; of one that stays it is told what its tower's parent says.
func TestKidsThatDoNotFit(t *testing.T) {
	twoOf := keysOf(2, 2, "m")
	for what, change := range map[string]func(s store, k *api.Kid){
		"another key":     func(s store, k *api.Kid) { k.Key = []byte(twoOf[1]) },
		"another count":   func(s store, k *api.Kid) { k.Count += 2 },
		"another label":   func(s store, k *api.Kid) { k.Label[0]++ },
		"no tower":        func(s store, k *api.Kid) { k.Addr.Sum[31]++ },
		"another Nth":     func(s store, k *api.Kid) { k.Addr.Nth++ },
		"another's tower": func(s store, k *api.Kid) { k.Addr = s.tower(twoOf[1]).Addr },
		"a value":         func(s store, k *api.Kid) { k.Addr = s.value("v") },
		"the head":        func(s store, k *api.Kid) { k.Addr = s.tree().Addr },
		"no record":       func(s store, k *api.Kid) { k.Addr = s.put(api.KindTower, []byte{0, 1}) },
	} {
		s := wide(t)
		inner, high := s.tower("n"), s.tower("x6405031")
		wrong := s.tower(twoOf[0], s.tower(keysOf(1, 1, "mz")[0]))
		change(s, &wrong)
		if heightOf("n") <= 2 {
			t.Fatalf("the key n has the height %d", heightOf("n"))
		}
		x := s.tree(high, inner, wrong)
		key := string(wrong.Key)
		for _, in := range []api.Span{all, from("a"), span("a", "o"), span(key, "o"), prove.Only([]byte(key)), span(key+"\x00", "n")} {
			s.fails("a kid with "+what, x, in, api.ErrTree)
		}
		for _, in := range []api.Span{span("", "a"), span("a", key), from("n"), from("zz"), span("n", "o"), span("", "\x00")} {
			s.proves("a kid with "+what+" that stays, or lies ahead", x, in, api.Proof{Count: x.Count, Ops: s.walk(x, in).ops})
		}
	}
}

// TestValuesThatDoNotFit: they are asked for where they are told, and there alone.
func TestValuesThatDoNotFit(t *testing.T) {
	s := wide(t)
	for what, value := range map[string]api.Addr{
		"an address of none": {Sum: api.Sum{1}},
		"another Nth":        {Sum: s.value("v").Sum, Nth: 1},
		"a tower":            s.tower("k").Addr,
		"a leaf":             s.put(api.KindLeaf, []byte("leaf")),
	} {
		x := s.tree(s.laid(api.Tower{Key: []byte("c"), Value: value}), s.tower("a"))
		for _, in := range []api.Span{all, span("b", "d"), prove.Only([]byte("c")), from("c")} {
			s.fails("a value that is "+what, x, in, api.ErrTree)
		}
		for _, in := range []api.Span{span("", "c"), from("c\x00"), prove.Only([]byte("d")), prove.Only([]byte("a"))} {
			s.proves("a value that is "+what, x, in, api.Proof{Count: 2, Ops: s.walk(x, in).ops})
		}
	}
	long := s.tree(s.laid(api.Tower{Key: []byte("c"), Value: s.value(strings.Repeat("v", api.MaxValue+1))}))
	s.proves("a value above its bound", long, all, api.Proof{Count: 1, Ops: s.walk(long, all).ops})
}

// TestTreesByHand: where all that the walk goes into fits, the ops are those of the walk, also of towers that hang where no map has them.
func TestTreesByHand(t *testing.T) {
	keys := slices.Concat(keysOf(1, 4, "a"), keysOf(2, 3, "a"), keysOf(3, 2, "b"), keysOf(1, 3, "c"), keysOf(4, 2, "c"))
	slices.Sort(keys)
	n := &noise{x: 32}
	for round := 0; round < 60 && !t.Failed(); round++ {
		s := wide(t)
		var kids []api.Kid
		for _, key := range slices.Backward(keys) {
			kids = append(kids, s.tower(key, n.kids(&kids, key, heightOf(key))...))
		}
		x := s.tree(n.kids(&kids, "", 24)...)
		for _, in := range []api.Span{all, from("b"), span("a", "c"), span(keys[3], keys[9]), prove.Only([]byte(keys[n.below(len(keys))]))} {
			s.proves("a tree by hand", x, in, api.Proof{Count: x.Count, Ops: s.walk(x, in).ops})
		}
	}
}

// kids are some of those that are left, such as a tower can have; what hangs at them may lie anywhere.
func (n *noise) kids(left *[]api.Kid, key string, height int) []api.Kid {
	var l []api.Kid
	level, bound := height-1, "\xff"
	for range 6 {
		if len(*left) == 0 {
			break
		}
		i := n.below(len(*left))
		k := (*left)[i]
		if k.Level <= level && string(k.Key) < bound && string(k.Key) > key {
			l = append(l, k)
			*left = slices.Delete(slices.Clone(*left), i, i+1)
			level, bound = k.Level-1, string(k.Key)
		}
	}
	return l
}

// alike lays down a tower with the value v, as all that it lays down: so there are few blobs beside the towers.
func (s store) alike(key string, kids ...api.Kid) api.Kid {
	s.t.Helper()
	return s.laid(api.Tower{Key: []byte(key), Value: s.value("v"), Kids: kids})
}

// pair is a tree at whose head two towers hang, b and x, with one and the same kid: the first of a row of towers that hang at one another.
func (s store) pair(row int) api.Tree {
	s.t.Helper()
	var hang []api.Kid
	for i := row; i > 0; i-- {
		hang = []api.Kid{s.alike(keysOf(1, 1, fmt.Sprintf("y%02d", i))[0], hang...)}
	}
	return s.tree(s.alike(keysOf(2, 1, "x")[0], hang...), s.alike(keysOf(1, 1, "b")[0], hang...))
}

// others puts blobs to which no tower leads.
func (s store) others(n int) {
	s.t.Helper()
	for i := range n {
		s.value(fmt.Sprintf("other %d", i))
	}
}

// holdsByHand holds the proofs of some spans against the document's walk; what else is in the blobs does not matter to them.
func (s store) holdsByHand(what string, x api.Tree, l ...api.Span) {
	s.t.Helper()
	for _, n := range []int{0, 40, 400} {
		s.others(n)
		for _, in := range l {
			s.proves(fmt.Sprintf("%s, %d other blobs,", what, n), x, in, api.Proof{Count: x.Count, Ops: s.walk(x, in).ops})
		}
	}
}

// TestOneTowerHangsAtTwo: the walk comes to it twice, and so do its ops.
func TestOneTowerHangsAtTwo(t *testing.T) {
	for _, row := range []int{1, 2, 3, 7, 20} {
		s := wide(t)
		x := s.pair(row)
		if ops := s.walk(x, all).ops; x.Count != uint64(2*row+2) || len(ops) != 4*row+5 {
			t.Fatalf("%d in the row: the walk has %d ops of %d keys", row, len(ops), x.Count)
		}
		s.holdsByHand(fmt.Sprintf("%d in the row", row), x, all, from("b"), from("c"), from("y"), from("z"), span("", "c"), span("b", "y02"), prove.Only([]byte("b")), prove.Only([]byte("y01")))
	}
}

// TestTheOpsOfAPair: told one by one.
func TestTheOpsOfAPair(t *testing.T) {
	s := wide(t)
	b, x, first, second := keysOf(1, 1, "b")[0], keysOf(2, 1, "x")[0], keysOf(1, 1, "ya")[0], keysOf(1, 1, "yb")[0]
	hang := s.alike(first, s.alike(second))
	tree := s.tree(s.alike(x, hang), s.alike(b, hang))
	both := func(level int, key string, count uint64) api.Op {
		return api.Op{Kind: api.OpBoth, Level: level, Key: []byte(key), Count: count}
	}
	in := api.Op{Kind: api.OpIn, Value: []byte("v")}
	part := []api.Op{both(0, first, 2), in, both(0, second, 1), in, in}
	ops := slices.Concat([]api.Op{both(1, x, 3), both(0, b, 3), {Kind: api.OpHead}}, part, part)
	s.proves("alone in its blobs", tree, all, api.Proof{Count: 6, Ops: ops})
	s.others(40)
	s.proves("with other blobs", tree, all, api.Proof{Count: 6, Ops: ops})
}

// TestTowersThatAreShared: likewise of trees at chance, where any tower may hang at any other.
func TestTowersThatAreShared(t *testing.T) {
	keys := slices.Concat(keysOf(1, 5, "a"), keysOf(2, 3, "a"), keysOf(3, 2, "b"), keysOf(1, 4, "c"), keysOf(4, 2, "c"))
	slices.Sort(keys)
	n := &noise{x: 33}
	twice := 0
	for round := 0; round < 60 && !t.Failed(); round++ {
		s := wide(t)
		var kids []api.Kid
		for _, key := range slices.Backward(keys) {
			left := slices.Clone(kids)
			kids = append(kids, s.tower(key, n.kids(&left, key, heightOf(key))...))
		}
		x := s.tree(n.kids(&kids, "", 24)...)
		if came := s.walk(x, all).came; len(came) > len(distinct(addrsOf(came))) {
			twice++
		}
		for _, in := range []api.Span{all, from("b"), span("a", "c"), span(keys[3], keys[9]), prove.Only([]byte(keys[n.below(len(keys))]))} {
			s.proves("a tree with towers that are shared", x, in, api.Proof{Count: x.Count, Ops: s.walk(x, in).ops})
		}
	}
	if twice < 20 {
		t.Errorf("only %d of the walks came to a tower twice", twice)
	}
}

func addrsOf(towers []api.Tower) []api.Addr {
	var l []api.Addr
	for _, t := range towers {
		l = append(l, towerAddr(t))
	}
	return l
}

// TestASharedTowerThatCannotBeHad: that it was to be gone into twice does not change what is answered.
func TestASharedTowerThatCannotBeHad(t *testing.T) {
	s := wide(t)
	x := s.pair(7)
	towers := s.walk(x, all).came
	s.turn(towerAddr(towers[len(towers)-1]))
	s.fails("the row's last tower is damaged", x, all, api.ErrTree)
	s.fails("the row's last tower is damaged", x, from("y07"), api.ErrTree)
	s.off()
	s.fails("without power", x, all, api.ErrPower)
}

// thicket is towers that hang together in more ways than there are blobs by far.
func (s store) thicket(rows int) api.Tree {
	s.t.Helper()
	var last []api.Kid
	for row := rows; row > 0; row-- {
		var kids []api.Kid
		for level := range 9 {
			var below []api.Kid
			if last != nil {
				below = slices.Clone(last[:level+1])
				slices.Reverse(below)
			}
			kids = append(kids, s.tower(keysOf(level+1, 1, fmt.Sprintf("%02d%d", row, level))[0], below...))
		}
		last = kids
	}
	slices.Reverse(last)
	return s.tree(last...)
}

func TestThickets(t *testing.T) {
	s := wide(t)
	x := s.thicket(5)
	if came := len(s.walk(x, all).came); came < 10*s.b.Len() {
		t.Fatalf("the walk comes to %d towers, and there are %d blobs", came, s.b.Len())
	}
	s.holdsByHand("a thicket", x, all, from("02"), span("01", "04"), from("zz"), prove.Only([]byte("03")))
}

// TestTheEdgeOfAThicket: of one that none could come through, what the walk does not go into is not looked at.
func TestTheEdgeOfAThicket(t *testing.T) {
	s := wide(t)
	x := s.thicket(30)
	if x.Count < 1<<26 {
		t.Fatalf("the tree has only %d keys", x.Count)
	}
	for _, in := range []api.Span{span("", "0"), from("zz"), span("30", "31"), prove.Only([]byte("15"))} {
		s.proves("the edge of a thicket", x, in, api.Proof{Count: x.Count, Ops: s.walk(x, in).ops})
	}
}
