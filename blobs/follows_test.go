package blobs_test

import (
	"bytes"
	"reflect"
	"slices"
	"sync"
	"testing"

	"witness/api"
	"witness/blobs"
	"witness/disk"
	"witness/segment"
)

// pair is blobs and the model that they are held against, each over a log and a disk of its own.
type pair struct {
	b       *blobs.Blobs
	m       *model
	spoiled bool // used bytes may have been lost: 6.12 tells nothing of such a log
}

// newPair takes Open's own digest where sum is sumOf, so that both are reckoned apart.
func newPair(t *testing.T, sum func(kind byte, body []byte) api.Sum, own bool) *pair {
	t.Helper()
	_, l, b := fresh(t)
	if !own {
		b = openWith(t, l, sum)
	}
	return &pair{b: b, m: &model{l: logOf(t, newDisk(t), 0), sum: sum}}
}

func (p *pair) both(do func(l *segment.Log)) {
	do(p.b.Log())
	do(p.m.l)
}

func (p *pair) disks(do func(d *disk.Disk)) {
	p.both(func(l *segment.Log) { do(l.Disk()) })
}

// holds compares all that can be asked.
func (p *pair) holds(t *testing.T, what string) {
	t.Helper()
	if got, want := p.b.Log().Tail(), p.m.l.Tail(); !reflect.DeepEqual(got, want) {
		t.Errorf("%s: the log is at %v, want %v", what, got, want)
	}
	one, two := p.b.Log().Disk(), p.m.l.Disk()
	if !slices.Equal(one.Pending(), two.Pending()) || !bytes.Equal(one.Image(), two.Image()) || one.Off() != two.Off() {
		t.Errorf("%s: the disk is another: writes to %v, want %v", what, one.Pending(), two.Pending())
	}
	has(t, what, p.b, p.m.items...)
	for _, a := range append(slices.Clone(p.m.ever), api.Addr{Nth: 200}) {
		p.gets(t, what, a)
	}
}

func (p *pair) gets(t *testing.T, what string, a api.Addr) {
	t.Helper()
	for kind := range byte(6) {
		want, e := p.m.get(kind, a)
		if got, errno := p.b.Get(kind, a); errno != e || !bytes.Equal(got, want) {
			t.Errorf("%s: Get(%d, %v) = %.20q, %d, want %.20q, %d", what, kind, a, got, errno, want, e)
		}
	}
	if _, ok := p.b.Where(a); ok != (p.m.find(a) >= 0) {
		t.Errorf("%s: Where(%v) = %v", what, a, ok)
	}
}

// reopens holds a log that is opened anew against what is there.
func (p *pair) reopens(t *testing.T, what string) {
	t.Helper()
	if p.spoiled || p.b.Log().Disk().Off() {
		return
	}
	again := openWith(t, anew(t, p.b.Log()), p.m.sum)
	for _, i := range p.m.items {
		lies(t, what+": 6.12", again, i.addr, i.place)
	}
	marks := p.b.Log().Tail().Marks
	for a, place := range again.Each() {
		if p.m.find(a) < 0 && (!slices.Contains(p.m.ever, a) || place.At+place.Len > marks[place.Seg].Used) {
			t.Errorf("6.12: %s: there is %v at %v, which was never there", what, a, place)
		}
	}
}

// step does one thing to both, and answers its name.
func (p *pair) step(t *testing.T, n *noise) string {
	t.Helper()
	switch n.below(24) {
	case 0:
		answers(t, "6.8: Begin", p.b.Begin(), p.m.begin())
		return "Begin"
	case 1:
		answers(t, "6.8: End", p.b.End(), p.m.end())
		return "End"
	case 2:
		answers(t, "6.8: Undo", p.b.Undo(), p.m.undo())
		return "Undo"
	case 3, 4:
		p.drop(t, n.below(segments+2)-1)
		return "Drop"
	case 5:
		p.keep(t, n)
		return "Keep"
	case 6, 7, 8:
		p.move(t, p.some(n))
		return "Move"
	case 9:
		p.both(func(l *segment.Log) { l.Next() })
		return "Next"
	case 10:
		p.spoiled = p.spoiled || p.m.begun // what was dropped may be begun anew, ahead of the Undo
		p.both(func(l *segment.Log) { l.Settle() })
		return "Settle"
	case 11:
		p.disks(func(d *disk.Disk) { d.Flush() })
		return "Flush"
	case 12:
		p.find(t, byte(n.below(6)), n.body())
		return "Find"
	}
	p.put(t, []byte{1, 2, 3, 4, 1, 2, 3, 4, 0, 5}[n.below(10)], n.body())
	return "Put"
}

// harm does something to both disks that is no call of the blobs.
func (p *pair) harm(n *noise) {
	switch n.below(3) {
	case 0:
		fuse := n.below(12)
		p.disks(func(d *disk.Disk) { d.Fuse(fuse) })
	case 1:
		c := n.crash(len(p.m.l.Disk().Pending()))
		p.disks(func(d *disk.Disk) { d.Crash(c) })
	case 2:
		sector, at, mask := n.below(64), n.below(size), byte(1)<<n.below(8)
		p.disks(func(d *disk.Disk) { d.Rot(sector, at, mask) })
	}
	p.spoiled = true
}

// some is an address that is there, was there, or never was.
func (p *pair) some(n *noise) api.Addr {
	if i := n.below(len(p.m.ever) + 1); i < len(p.m.ever) {
		return p.m.ever[i]
	}
	return api.Addr{Nth: 100}
}

func (p *pair) put(t *testing.T, kind byte, body []byte) {
	t.Helper()
	want, e := p.m.put(kind, body)
	if got, errno := p.b.Put(kind, body); got != want || errno != e {
		t.Errorf("6.3: Put(%d, %d bytes) = %v, %d, want %v, %d", kind, len(body), got, errno, want, e)
	}
}

func (p *pair) find(t *testing.T, kind byte, body []byte) {
	t.Helper()
	want, there, _ := p.m.look(kind, body)
	if !there {
		want = api.Addr{}
	}
	if got, ok := p.b.Find(kind, body); got != want || ok != there {
		t.Errorf("6.5: Find(%d, %d bytes) = %v, %v, want %v, %v", kind, len(body), got, ok, want, there)
	}
}

func (p *pair) move(t *testing.T, a api.Addr) {
	t.Helper()
	answers(t, "6.6: Move", p.b.Move(a), p.m.move(a))
}

func (p *pair) drop(t *testing.T, seg int) {
	t.Helper()
	want, e := p.m.drop(seg)
	if got, errno := p.b.Drop(seg); got != want || errno != e {
		t.Errorf("6.7: Drop(%d) = %d, %d, want %d, %d", seg, got, errno, want, e)
	}
}

func (p *pair) keep(t *testing.T, n *noise) {
	t.Helper()
	var l []api.Addr
	for range n.below(2 * (len(p.m.ever) + 1)) {
		l = append(l, p.some(n))
	}
	want := p.m.keep(l)
	if got := p.b.Keep(l); got != want {
		t.Errorf("6.7: Keep = %d, want %d", got, want)
	}
}

// TestAgainstTheModel does whatever can be done, with the digest and with two that have twins without end, on disks that fail and that do not.
func TestAgainstTheModel(t *testing.T) {
	for name, sum := range map[string]func(kind byte, body []byte) api.Sum{"SHA-256": sumOf, "three sums": few, "one sum": one} {
		for seed := range 120 {
			n := &noise{uint64(seed)}
			p := newPair(t, sum, name == "SHA-256")
			for range 60 {
				what := p.step(t, n)
				p.holds(t, what)
				p.reopens(t, what)
				if seed%2 == 1 && n.below(6) == 0 {
					p.harm(n)
				}
				if p.m.l.Disk().Off() && n.below(3) == 0 {
					c := n.crash(len(p.m.l.Disk().Pending()))
					p.disks(func(d *disk.Disk) { d.Crash(c) })
				}
				if t.Failed() {
					t.Fatalf("%s, seed %d, at %s", name, seed, what)
				}
			}
		}
	}
}

// TestChangesInEveryOrder plays each list of five calls behind some blobs.
func TestChangesInEveryOrder(t *testing.T) {
	x, y := addr(1, "x"), addr(2, "y")
	calls := []struct {
		name string
		do   func(p *pair)
	}{
		{"Begin", func(p *pair) { answers(t, "6.8: Begin", p.b.Begin(), p.m.begin()) }},
		{"End", func(p *pair) { answers(t, "6.8: End", p.b.End(), p.m.end()) }},
		{"Undo", func(p *pair) { answers(t, "6.8: Undo", p.b.Undo(), p.m.undo()) }},
		{"Put", func(p *pair) { p.put(t, 1, []byte("x")); p.put(t, 3, []byte("new")) }},
		{"Move", func(p *pair) { p.move(t, x); p.move(t, y) }},
		{"Drop", func(p *pair) { p.both(func(l *segment.Log) { l.Next() }); p.drop(t, 0) }},
		{"Keep", func(p *pair) {
			if got, want := p.b.Keep([]api.Addr{y, y}), p.m.keep([]api.Addr{y}); got != want {
				t.Errorf("6.7: Keep = %d, want %d", got, want)
			}
		}},
	}
	const length = 5
	lists := 1
	for range length {
		lists *= len(calls)
	}
	for list := range lists {
		p := newPair(t, sumOf, true)
		p.put(t, 1, []byte("x"))
		p.put(t, 2, []byte("y"))
		var names []string
		for range length {
			c := calls[list%len(calls)]
			list /= len(calls)
			names = append(names, c.name)
			c.do(p)
		}
		if got, want := p.b.Log().Tail(), p.m.l.Tail(); !reflect.DeepEqual(got, want) {
			t.Errorf("6.8: the log is at %v, want %v", got, want)
		}
		has(t, "6.8", p.b, p.m.items...)
		if got := begun(p.b); got != p.m.begun {
			t.Errorf("6.8: a change has begun: %v", got)
		}
		if t.Failed() {
			t.Fatalf("%v", names)
		}
	}
}

// TestUndoAnswersAsAtBegin: behind Undo all goes on as with blobs that never began a change.
func TestUndoAnswersAsAtBegin(t *testing.T) {
	for seed := range 150 {
		n := &noise{uint64(seed)}
		p := newPair(t, few, false)
		for range n.below(12) {
			p.put(t, byte(1+n.below(4)), n.body())
		}
		d := p.b.Log().Disk()
		answers(t, "6.8", p.b.Begin(), api.OK)
		d.Fuse(n.below(60))
		for range n.below(20) {
			switch n.below(6) {
			case 0:
				p.b.Keep([]api.Addr{p.some(n), p.some(n)})
			case 1:
				p.b.Drop(n.below(segments))
			case 2:
				p.b.Log().Next()
			case 3:
				p.b.Move(p.some(n))
			default:
				p.b.Put(byte(1+n.below(4)), n.body())
			}
		}
		d.Fuse(-1)
		answers(t, "6.8", p.b.Undo(), api.OK)
		if d.Off() {
			on(d)
		}
		has(t, "6.12", p.b, p.m.items...)
		for range 15 {
			p.put(t, byte(1+n.below(4)), n.body())
			p.find(t, byte(1+n.below(4)), n.body())
			p.move(t, p.some(n))
			p.gets(t, "6.12", p.some(n))
		}
		p.drop(t, n.below(segments))
		p.keep(t, n)
		has(t, "6.12", p.b, p.m.items...)
		if t.Failed() {
			t.Fatalf("seed %d", seed)
		}
	}
}

// TestWhatWasPutStays: all that Put gave an address to is under it, byte by byte, wherever it is moved, behind a flush and a crash too.
func TestWhatWasPutStays(t *testing.T) {
	type text struct {
		kind byte
		body string
	}
	for name, sum := range map[string]func(kind byte, body []byte) api.Sum{"SHA-256": sumOf, "three sums": few, "one sum": one} {
		for seed := range 30 {
			n := &noise{uint64(seed)}
			_, l, b := freshWith(t, sum)
			given := map[api.Addr]text{}
			stays := func(what string, b *blobs.Blobs) {
				t.Helper()
				for a, put := range given {
					gets(t, "6.11: "+what, b, put.kind, a, put.body)
					finds(t, "6.10: "+what, b, put.kind, put.body, a)
				}
			}
			for range 30 {
				put := text{byte(1 + n.below(4)), string(n.body())}
				a, e := b.Put(put.kind, []byte(put.body))
				if e != api.OK {
					answers(t, "6.3", e, api.ErrFull)
					continue
				}
				if old, ok := given[a]; ok && old != put {
					t.Errorf("6.10: %s: %v is the address of %v and of %v", name, a, old, put)
				}
				given[a] = put
				b.Move(a)
				stays(name, b)
			}
			answers(t, "3.4", l.Disk().Flush(), api.OK)
			l.Disk().Crash(n.crash(0))
			again := openWith(t, anew(t, l), sum)
			if again.Len() != len(given) {
				t.Errorf("6.12: %d are there, and %d were put", again.Len(), len(given))
			}
			stays(name+", opened anew", again)
		}
	}
}

// TestManyAtOneTime asks from several goroutines; each gets what one alone would get.
func TestManyAtOneTime(t *testing.T) {
	_, _, b := freshWith(t, few)
	n := &noise{5}
	for range 20 {
		b.Put(byte(1+n.below(4)), n.body())
	}
	f := &fixture{b}
	answers(t, "6.8", b.Begin(), api.OK)
	b.Keep([]api.Addr{each(b)[0].addr, each(b)[2].addr, each(b)[4].addr, each(b)[5].addr})
	want := f.all()
	var workers sync.WaitGroup
	for range 8 {
		workers.Add(1)
		go func() {
			defer workers.Done()
			for range 20 {
				got := told{view: want.view}
				got.view.items = each(b)
				f.asks(&got)
				if b.Len() != len(want.view.items) || !got.same(want) {
					t.Errorf("6.9: %v, want %v", got, want)
				}
			}
		}()
	}
	workers.Wait()
}
