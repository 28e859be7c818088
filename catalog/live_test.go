package catalog_test

import (
	"bytes"
	"crypto/sha256"
	"fmt"
	"slices"
	"strings"
	"testing"

	"witness/api"
	"witness/catalog"
	"witness/codec"
	"witness/disk"
	"witness/node"
	"witness/skip"
)

// blob is what is put by hand.
type blob struct {
	kind byte
	body string
}

func (b blob) addr() api.Addr {
	return api.Addr{Sum: sha256.Sum256(append([]byte{b.kind}, b.body...))}
}

// scene is a state whose blobs are laid by hand, with faults at some of the places at which Live looks.
type scene struct {
	t      *testing.T
	faults map[string]string
	blobs  []blob
	strays []blob     // blobs that are not what somebody needs them for: Open forgets them
	spoilt []api.Addr // frames that rot behind Open
	page   api.Page
}

// put is the address of a blob that is needed at a place, or of what stands there in its stead.
func (s *scene) put(at string, kind byte, body []byte) api.Addr {
	b := blob{kind, string(body)}
	switch s.faults[at] {
	case "none":
		return api.Addr{Sum: sha256.Sum256([]byte(at)), Nth: 3}
	case "kind":
		b = blob{kind%4 + 1, "a stray at " + at}
		s.strays = append(s.strays, b)
		return b.addr()
	case "form":
		b.body = string(map[byte][]byte{2: {9}, 3: {1, 2}, 4: make([]byte, 131)}[kind]) + at
		s.strays = append(s.strays, b)
		return b.addr()
	case "spoilt":
		s.spoilt = append(s.spoilt, b.addr())
	}
	s.blobs = append(s.blobs, b)
	return b.addr()
}

// wrong are the errors of the faults.
func wrong(fault string, kind byte) api.Errno {
	return map[string]api.Errno{"none": api.ErrNone, "kind": api.ErrKind, "spoilt": api.ErrCheck, "form": formErrors[kind]}[fault]
}

var formErrors = [5]api.Errno{2: api.ErrTower, 3: api.ErrShort, 4: api.ErrTrail}

func (s *scene) tower(at, key string, kids ...api.Kid) api.Kid {
	s.t.Helper()
	t := api.Tower{Key: []byte(key), Kids: kids, Value: s.put(at+key+"=", 1, []byte("value of "+at+key))}
	if e := node.Valid(t); e != api.OK {
		s.t.Fatalf("7.4: the tower %s is not valid: %d", key, e)
	}
	return api.Kid{Level: node.Height(t.Key) - 1, Key: t.Key, Count: node.Count(t), Addr: s.put(at+key, 2, codec.Tower(t)), Label: node.Label(t)}
}

// tree is a tree of the keys a to e and i.
func (s *scene) tree(at string) api.Tree {
	s.t.Helper()
	c := s.tower(at, "c", s.tower(at, "e"), s.tower(at, "d"))
	a := s.tower(at, "a", s.tower(at, "b"))
	head := api.Tower{Head: true, Kids: []api.Kid{s.tower(at, "i"), c, a}}
	return api.Tree{Addr: s.put(at+"head", 2, codec.Tower(head))}
}

// treePlaces are the places of a tree, in the order in which Live looks at them.
func treePlaces(at string) []string {
	return strings.Fields(strings.ReplaceAll("@head @i @i= @c @c= @e @e= @d @d= @a @a= @b @b=", "@", at))
}

// limb is the part of the annals with n leaves from one on.
func (s *scene) limb(from, n int) api.Limb {
	at := fmt.Sprintf("%d+%d", from, n)
	if n == 1 {
		l := api.Leaf{Version: uint64(from)}
		return api.Limb{Addr: s.put(at, 3, codec.Leaf(l))}
	}
	f := api.Fork{Left: s.limb(from, n/2), Right: s.limb(from+n/2, n/2)}
	return api.Limb{Addr: s.put(at, 4, codec.Fork(f))}
}

// limbPlaces are the places of a part of the annals.
func limbPlaces(from, n int) []string {
	at := fmt.Sprintf("%d+%d", from, n)
	if n == 1 {
		return []string{at}
	}
	return slices.Concat([]string{at}, limbPlaces(from, n/2), limbPlaces(from+n/2, n/2))
}

func kindAt(place string) byte {
	switch {
	case strings.HasSuffix(place, "="):
		return 1
	case strings.HasSuffix(place, "+1"):
		return 3
	case strings.Contains(place, "+"):
		return 4
	}
	return 2
}

// places are all at which Live looks, in that order: two trees, and the annals of seven leaves.
func places() []string {
	return slices.Concat(treePlaces("5:"), treePlaces("6:"), limbPlaces(0, 4), limbPlaces(4, 2), limbPlaces(6, 1))
}

// sceneOf is the scene with these faults.
func sceneOf(t *testing.T, faults map[string]string) *scene {
	t.Helper()
	s := &scene{t: t, faults: faults}
	s.page = api.Page{Last: 6, Window: 2, Versions: []api.Version{{Number: 5, Tree: s.tree("5:")}, {Number: 6, Tree: s.tree("6:")}}}
	s.page.Annal = api.Annal{Size: 7, Peaks: []api.Peak{{Size: 4, Limb: s.limb(0, 4)}, {Size: 2, Limb: s.limb(4, 2)}, {Size: 1, Limb: s.limb(6, 1)}}}
	return s
}

// laid is a disk that has the scene.
func (s *scene) laid() *disk.Disk {
	s.t.Helper()
	d := newDisk(s.t, 2+5*64, 128)
	must(s.t, "14.1: Format", catalog.Format(d, 64, 3))
	c := open(s.t, d)
	for _, b := range slices.Concat(s.strays, s.blobs) {
		_, e := c.Blobs().Put(b.kind, []byte(b.body))
		must(s.t, "6.3: Put", e)
	}
	must(s.t, "14.9: Commit", c.Commit())
	h := alone(s.t, d)
	h.page.Last, h.page.Window, h.page.Versions, h.page.Annal = s.page.Last, s.page.Window, s.page.Versions, s.page.Annal
	return h.lay()
}

// opened is the scene's catalog, with the strays put again and what is spoilt turned.
func (s *scene) opened() *catalog.Catalog {
	s.t.Helper()
	d := s.laid()
	opens(s.t, fmt.Sprint("faults ", s.faults), d)
	c := open(s.t, d)
	for _, b := range s.strays {
		a, e := c.Blobs().Put(b.kind, []byte(b.body))
		must(s.t, "6.3: Put", e)
		if a != b.addr() {
			s.t.Fatalf("6.3: another address")
		}
	}
	for _, a := range s.spoilt {
		if p, there := c.Blobs().Where(a); there {
			at := p.At + 9 // the blob's Nth
			must(s.t, "3.8: Rot", d.Rot(2+p.Seg*64+at/128, at%128, 1))
		}
	}
	return c
}

// lives holds Live against an error, with which there is no list.
func lives(t *testing.T, what string, c *catalog.Catalog, want api.Errno) {
	t.Helper()
	if l, e := c.Live(); e != want || e != api.OK && l != nil {
		t.Errorf("14.4: %s: Live = %d addresses, %d, want %d", what, len(l), e, want)
	}
}

func TestLiveWhole(t *testing.T) {
	s := sceneOf(t, nil)
	c := s.opened()
	l, e := c.Live()
	var want []api.Addr
	for _, b := range s.blobs {
		want = append(want, b.addr())
	}
	slices.SortFunc(want, func(a, b api.Addr) int { return bytes.Compare(addrBytes(a), addrBytes(b)) })
	if !slices.Equal(l, want) || e != api.OK || len(want) != len(places()) {
		t.Errorf("14.4: Live = %d addresses, %d, want %d", len(l), e, len(want))
	}
}

// TestLiveFaults: each place, with each fault that may stand there.
func TestLiveFaults(t *testing.T) {
	t.Parallel()
	for _, place := range places() {
		for _, fault := range []string{"none", "kind", "form", "spoilt"} {
			want := wrong(fault, kindAt(place))
			if want == api.OK {
				continue // a value has no form
			}
			lives(t, place+": "+fault, sceneOf(t, map[string]string{place: fault}).opened(), want)
		}
	}
}

// TestLiveFirst: of two faults the one that is met first is the answer.
func TestLiveFirst(t *testing.T) {
	t.Parallel()
	l := places()
	r := noise(2)
	faults := []string{"none", "kind", "spoilt"}
	for i := range l {
		for j := i + 1; j < len(l); j++ {
			if j > i+2 && r.IntN(6) > 0 {
				continue
			}
			one := r.IntN(3)
			two := (one + 1 + r.IntN(2)) % 3
			f := map[string]string{l[i]: faults[one], l[j]: faults[two]}
			lives(t, fmt.Sprint(f), sceneOf(t, f).opened(), wrong(faults[one], kindAt(l[i])))
		}
	}
}

// TestLivePower: with the power gone what is there cannot be read, and what is not there is not asked of the disk.
func TestLivePower(t *testing.T) {
	for i, place := range places() {
		c := sceneOf(t, map[string]string{place: "none"}).opened()
		d := c.Blobs().Log().Disk()
		d.Fuse(0)
		d.Flush()
		want := api.ErrPower
		if i == 0 {
			want = api.ErrNone
		}
		lives(t, place, c, want)
		d.Crash(api.Crash{})
		lives(t, place, c, api.ErrNone)
	}
}

// TestLiveMet: what was met already is not looked at again, as what it may be needed.
func TestLiveMet(t *testing.T) {
	s := sceneOf(t, nil)
	head, value := s.page.Versions[0].Tree.Addr, blob{1, "value of 5:i"}.addr()
	twice := api.Tower{Key: []byte("a"), Value: head}
	kid := api.Kid{Level: 1, Key: twice.Key, Count: 1, Addr: s.put("", 2, codec.Tower(twice))}
	odd := api.Tower{Head: true, Kids: []api.Kid{{Level: 5, Key: []byte("i"), Count: 1, Addr: value}, kid}}
	s.page.Versions[1].Tree.Addr = s.put("", 2, codec.Tower(odd)) // needs a head as a value, and a value as a tower: both were met
	s.page.Annal.Peaks[2].Limb.Addr = head
	c := s.opened()
	lives(t, "a head that is needed as a value and as a leaf", c, api.OK)
	l, _ := c.Live()
	if want := len(treePlaces("")) + 2 + 7 + 3; len(l) != want {
		t.Errorf("14.4: Live = %d addresses, want %d", len(l), want)
	}

	// The other way round it is met first as what it is not.
	s.page.Versions[0], s.page.Versions[1] = s.page.Versions[1], s.page.Versions[0]
	s.page.Versions[0].Number, s.page.Versions[1].Number = 5, 6
	c = s.opened()
	lives(t, "a value that is needed as a tower first", c, api.ErrKind)
	for _, a := range []api.Addr{head, value, kid.Addr} {
		if _, there := c.Blobs().Where(a); !there {
			t.Error("14.2: what is read as what it is elsewhere is not there")
		}
	}
}

// TestLiveOneTree: versions may share all or some of their blobs.
func TestLiveOneTree(t *testing.T) {
	d := wide(t, 5)
	c := open(t, d)
	tree := put(t, c, "a", "1")
	for range 3 {
		_, e := c.Add(tree)
		must(t, "14.8: Add", e)
	}
	if l, e := c.Live(); len(l) != 1+3+7 || e != api.OK { // two heads, a tower, a value; four leaves, three forks
		t.Errorf("14.4: Live = %d addresses, %d", len(l), e)
	}
	add(t, c, "b", "1")
	l, e := c.Live()
	m, _ := modelOpen(d)
	if !slices.Equal(l, m.live) || e != api.OK || len(l) != len(m.live) {
		t.Errorf("14.4: Live = %d addresses, %d, want %d", len(l), e, len(m.live))
	}
}

// TestLiveOnly: blobs that no kept version needs are not live, and are not there behind Open; put again they are written anew.
func TestLiveOnly(t *testing.T) {
	d := wide(t, 1)
	c := open(t, d)
	add(t, c, "a", "old")
	gone := blob{1, "old"}.addr()
	place, _ := c.Blobs().Where(gone)
	add(t, c, "a", "new")
	c.Blobs().Put(api.KindValue, []byte("needed by none"))
	must(t, "14.9: Commit", c.Commit())
	l, e := c.Live()
	if slices.Contains(l, gone) || slices.Contains(l, blob{1, "needed by none"}.addr()) || e != api.OK {
		t.Errorf("14.4: what nobody needs is live: %d", e)
	}
	if _, there := c.Blobs().Where(gone); !there {
		t.Error("14.7: a commit forgets a blob")
	}
	n := open(t, d)
	if n.Blobs().Len() != len(l) || !slices.Equal(addrs(each(n.Blobs())), l) {
		t.Errorf("14.2: %d blobs are there, %d live", n.Blobs().Len(), len(l))
	}
	add(t, n, "b", "old")
	if p, there := n.Blobs().Where(gone); p == place || !there {
		t.Error("14.2: a blob that was forgotten is found again")
	}
	must(t, "8.7: Check", skip.Check(n.Blobs(), n.Latest().Tree))
}

// TestLiveEnds: forks that stand in many places at once, and a great blob that many towers need as what it is not, are read once.
func TestLiveEnds(t *testing.T) {
	s := &scene{t: t}
	limb := s.limb(0, 1)
	for range 62 {
		limb = api.Limb{Addr: s.put("", 4, codec.Fork(api.Fork{Left: limb, Right: limb}))}
	}
	s.page = api.Page{Last: last - 1, Window: 1, Versions: []api.Version{{Number: last - 1, Tree: s.tree("5:")}}}
	s.page.Annal = api.Annal{Size: last, Peaks: []api.Peak{{Size: last, Limb: limb}}}
	c := s.opened()
	if l, e := c.Live(); len(l) != 63+len(treePlaces("")) || e != api.OK {
		t.Errorf("14.4: 2^62 leaves in 62 forks: %d addresses, %d", len(l), e)
	}

	s = &scene{t: t}
	great := blob{1, strings.Repeat("great", 1000)}
	s.blobs = append(s.blobs, great)
	var kids []api.Kid
	for i := 'a'; i <= 'z'; i++ {
		tower := api.Tower{Key: []byte{byte(i)}, Value: s.put("", 1, []byte("1")), Kids: kidsAt(great.addr(), byte(i))}
		k := api.Kid{Level: node.Height(tower.Key) - 1, Key: tower.Key, Count: node.Count(tower), Addr: s.put("", 2, codec.Tower(tower))}
		for len(kids) > 0 && kids[len(kids)-1].Level <= k.Level {
			kids = kids[:len(kids)-1]
		}
		kids = append(kids, k)
		s.page.Versions = append(s.page.Versions, api.Version{Number: uint64(i), Tree: api.Tree{Addr: k.Addr}})
	}
	s.page.Last, s.page.Window = 'z', 64
	s.page.Annal = api.Annal{Size: 'z' + 1, Peaks: peaksOf('z' + 1)}
	d := s.laid()
	before := d.Stats().Reads
	n := open(t, d)
	if reads, most := d.Stats().Reads-before, 1000; reads > uint64(most) {
		t.Errorf("14.2: Open reads %d sectors", reads)
	}
	if n.Blobs().Len() != 27 {
		t.Errorf("14.2: %d blobs are there, want 26 towers and a value", n.Blobs().Len())
	}
	lives(t, "a great value as a tower", n, api.ErrNone)
}

// kidsAt are kids of a tower with that key, all at one address.
func kidsAt(a api.Addr, key byte) []api.Kid {
	var l []api.Kid
	for level := node.Height([]byte{key}) - 1; level >= 0; level-- {
		bound := []byte{key + 1}
		if len(l) > 0 {
			bound = l[len(l)-1].Key
		}
		for i := 65535; i >= 0; i-- {
			k := []byte{key, byte(i >> 8), byte(i)}
			if node.Height(k)-1 == level && bytes.Compare(k, bound) < 0 {
				l = append(l, api.Kid{Level: level, Key: k, Count: 1, Addr: a})
				break
			}
		}
	}
	return l
}
