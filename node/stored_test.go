package node_test

import (
	"fmt"
	"slices"
	"testing"

	"witness/api"
	"witness/blobs"
	"witness/node"
)

// someTowers are valid, and fit into a segment together.
func someTowers() []api.Tower {
	return []api.Tower{
		head(), tower("k"), {}, tower(""), tower(string(make([]byte, api.MaxKey))),
		tower(lowest, kid("v1986511", 5), kid("c1", 3), kid("a2", 1)), fullHead(),
		head(kid("a2", last)), tower("x6405031", kid(higher, last-1)),
	}
}

func TestSaveAndLoad(t *testing.T) {
	s := newStore(t)
	var addrs []api.Addr
	for i, tower := range someTowers() {
		what := fmt.Sprintf("tower %d", i)
		a := s.saves(t, what, tower)
		addrs = append(addrs, a)
		body, e := s.b.Get(api.KindTower, a)
		answers(t, "7.5: Get of what was saved", e, api.OK)
		isText(t, "7.5: the body of "+what, body, recordOf(tower))
	}
	for i, tower := range someTowers() {
		s.loads(t, fmt.Sprintf("tower %d", i), addrs[i], tower)
	}
	if s.b.Len() != len(addrs) {
		t.Errorf("7.5: %d blobs are there, and %d towers were saved", s.b.Len(), len(addrs))
	}
}

// TestSaveWritesOneBlob: its value and its kids are the caller's business.
func TestSaveWritesOneBlob(t *testing.T) {
	s := newStore(t)
	a := s.saves(t, "a tower", tower(lowest, kid("c1", 3), kid("a2", 1)))
	var there []api.Addr
	for a := range s.b.Each() {
		there = append(there, a)
	}
	if !slices.Equal(there, []api.Addr{a}) {
		t.Errorf("7.5: the blobs %v are there, want %v alone", there, a)
	}
	s.loadFails(t, "the kid's address", kid("c1", 3).Addr, api.ErrNone)
}

func TestSaveOfWhatIsThere(t *testing.T) {
	s := newStore(t)
	for _, tower := range someTowers() {
		a := s.saves(t, "the first time", tower)
		s.unchanged(t, "the second time", func() {
			if again := s.saves(t, "the second time", tower); again != a {
				t.Errorf("7.5: saved again it is at %v, and it was at %v", again, a)
			}
		})
	}
	s.unchanged(t, "a nil key and an empty one", func() {
		s.saves(t, "an empty key", api.Tower{Key: []byte{}, Kids: []api.Kid{}})
	})
}

func TestSaveOfWhatIsNotValid(t *testing.T) {
	s := newStore(t)
	s.saves(t, "the head", head())
	s.saveFails(t, "the head with a key", api.Tower{Head: true, Key: []byte("x")}, api.ErrTower)
	s.saveFails(t, "the head with a value", api.Tower{Head: true, Value: api.Addr{Nth: 1}}, api.ErrTower)
	s.saveFails(t, "too long a key", tower(string(make([]byte, 1025))), api.ErrTower)
	s.saveFails(t, "a kid of the count 0", head(kid("a2", 0)), api.ErrKids)
	s.saveFails(t, "a level that is none", head(leveled("a2", 256)), api.ErrKids)
	s.saveFails(t, "25 kids", head(make([]api.Kid, 25)...), api.ErrKids)
	s.off(t)
	s.saveFails(t, "the power is gone, but it is asked later", api.Tower{Head: true, Key: []byte("x")}, api.ErrTower)
	s.saveFails(t, "the power is gone, but it is asked later", head(kid("a2", 0)), api.ErrKids)
}

// off makes the power go.
func (s store) off(t *testing.T) {
	t.Helper()
	s.d.Fuse(0)
	answers(t, "3.5", s.d.Flush(), api.ErrPower)
}

// on gives the power back, with all that was written.
func (s store) on() {
	s.d.Crash(api.Crash{Keep: slices.Repeat([]bool{true}, len(s.d.Pending())), Torn: -1})
}

func TestPowerGone(t *testing.T) {
	s := newStore(t)
	a := s.saves(t, "the head", head())
	s.off(t)
	s.saveFails(t, "with the power gone", tower("k"), api.ErrPower)
	s.saveFails(t, "what is there, with the power gone", head(), api.ErrPower)
	s.loadFails(t, "with the power gone", a, api.ErrPower)
	s.loadFails(t, "what is not there, with the power gone", api.Addr{}, api.ErrNone)
	s.on()
	s.saves(t, "with the power back", tower("k"))
	s.loads(t, "with the power back", a, head())
}

// TestPowerGoesAtEachWrite: with an error of Put there is no address.
func TestPowerGoesAtEachWrite(t *testing.T) {
	for fuse := 0; !t.Failed(); fuse++ {
		s := newStore(t)
		s.d.Fuse(fuse)
		a, e := node.Save(s.b, fullHead())
		if e == api.OK {
			s.loads(t, "all was written", a, fullHead())
			if fuse < 2 {
				t.Errorf("7.5: saved by %d writes", fuse)
			}
			return
		}
		answers(t, "7.5: Save as the power goes", e, api.ErrPower)
		if a != (api.Addr{}) {
			t.Errorf("7.5: with an error there is the address %v", a)
		}
	}
}

func TestSaveWithoutRoom(t *testing.T) {
	s := newStore(t)
	for i := 0; s.b.Len() == i; i++ {
		if _, e := s.b.Put(api.KindValue, append(make([]byte, 600), byte(i))); e != api.OK {
			break
		}
	}
	s.saveFails(t, "without room", fullHead(), api.ErrFull)
}

func TestLoadOfWhatIsNotThere(t *testing.T) {
	s := newStore(t)
	a := s.saves(t, "the head", head())
	s.loadFails(t, "the zero address", api.Addr{}, api.ErrNone)
	s.loadFails(t, "another Nth", api.Addr{Sum: a.Sum, Nth: 1}, api.ErrNone)
	s.loadFails(t, "another sum", api.Addr{Sum: fill('x')}, api.ErrNone)
	s.b.Keep(nil)
	s.loadFails(t, "what was forgotten", a, api.ErrNone)
}

func TestLoadOfAnotherKind(t *testing.T) {
	s := newStore(t)
	for _, kind := range []byte{api.KindValue, api.KindLeaf, api.KindFork} {
		s.loadFails(t, "another kind", s.put(t, kind, recordOf(head())), api.ErrKind)
		s.loadFails(t, "another kind, and no tower", s.put(t, kind, []byte{7}), api.ErrKind)
	}
}

func TestLoadOfNoRecord(t *testing.T) {
	s := newStore(t)
	bad := [][]byte{nil, {0}, {1}, {2}, {1, 25}, {1, 0, 0}, {1, 0x80, 0}, {1, 1}}
	record := recordOf(tower("k", kid("a2", 3)))
	bad = append(bad, record[:len(record)-1], append(slices.Clone(record), 0))
	bad = append(bad, recordOf(head(leveled("a2", 24))), recordOf(tower(string(make([]byte, 1025)))))
	for _, body := range bad {
		s.loadFails(t, fmt.Sprintf("the body %.20x", body), s.put(t, api.KindTower, body), api.ErrTower)
	}
}

// TestLoadOfWhatIsNotValid: it is ErrTower, also where Valid tells ErrKids.
func TestLoadOfWhatIsNotValid(t *testing.T) {
	s := newStore(t)
	for _, tower := range []api.Tower{
		head(kid("a2", 0)), head(leveled("a2", 1)), head(kid("a2", 1), kid("b0", 1)), head(kid("b0", 1), kid("a", 1)),
		tower("a2", kid("a2", 1)), tower("b", kid("a2", 1)), tower("k", kid("x6405031", 1)), tower(lowest, kid("a2", last)),
		head(kid("b0", last), kid("a2", 1)),
	} {
		answers(t, "7.4: Valid", node.Valid(tower), api.ErrKids)
		s.loadFails(t, fmt.Sprintf("the tower %.100v", tower), s.put(t, api.KindTower, recordOf(tower)), api.ErrTower)
	}
}

func TestLoadOfWhatIsDamaged(t *testing.T) {
	s := newStore(t)
	a := s.saves(t, "a tower", tower(lowest, kid("c1", 3)))
	place, _ := s.b.Where(a)
	answers(t, "3.8: Rot", s.d.Rot(2+(place.At+20)/512, (place.At+20)%512, 1), api.OK)
	s.loadFails(t, "with a bit turned", a, api.ErrCheck)
}

func TestNoBlobs(t *testing.T) {
	for _, b := range []*blobs.Blobs{nil, {}} {
		if got, e := node.Save(b, head()); got != (api.Addr{}) || e != api.ErrFull {
			t.Errorf("0.1: Save into no blobs = %v, %d", got, e)
		}
		if got, e := node.Save(b, api.Tower{Head: true, Key: []byte("x")}); got != (api.Addr{}) || e != api.ErrTower {
			t.Errorf("0.1: Save of no tower into no blobs = %v, %d", got, e)
		}
		if got, e := node.Load(b, api.Addr{}); !sameTower(got, api.Tower{}) || e != api.ErrNone {
			t.Errorf("0.1: Load from no blobs = %v, %d", got, e)
		}
	}
}

// TestManySaved: what Save answers is loaded as it was, with all others beside it.
func TestManySaved(t *testing.T) {
	n := &noise{}
	s := newStore(t)
	saved := map[api.Addr]api.Tower{}
	for range 200 {
		tower := n.goodTower()
		if len(tower.Kids) > 3 {
			tower.Kids = tower.Kids[len(tower.Kids)-3:]
		}
		if n.below(2) == 0 {
			tower = n.worse(tower)
		}
		a, e := node.Save(s.b, tower)
		if e == api.ErrFull {
			break
		}
		answers(t, "7.5: Save", e, validOf(tower))
		if e == api.OK {
			saved[a] = tower
		}
	}
	if len(saved) < 30 {
		t.Errorf("%d towers alone were saved", len(saved))
	}
	for a, tower := range saved {
		s.loads(t, "one of many", a, tower)
	}
	again, e := blobs.Open(s.b.Log())
	answers(t, "6.2: Open", e, api.OK)
	for a, tower := range saved {
		if got, e := node.Load(again, a); !sameTower(got, tower) || e != api.OK {
			t.Errorf("7.5: Load from blobs that were opened anew = %v, %d", got, e)
		}
	}
	if s.b.Len() != len(saved) {
		t.Errorf("7.5: %d blobs are there, and %d towers were saved", s.b.Len(), len(saved))
	}
}

func TestUndoneSave(t *testing.T) {
	s := newStore(t)
	s.saves(t, "the head", head())
	answers(t, "6.8: Begin", s.b.Begin(), api.OK)
	a := s.saves(t, "a tower", tower("k"))
	answers(t, "6.8: Begin", s.b.Begin(), api.ErrOpen)
	s.loads(t, "within a change", a, tower("k"))
	answers(t, "6.8: Undo", s.b.Undo(), api.OK)
	s.loadFails(t, "what was undone", a, api.ErrNone)
}
