package codec_test

import (
	"bytes"
	"testing"

	"witness/api"
	"witness/codec"
)

func (n *noise) kid() api.Kid {
	return api.Kid{Level: n.below(api.MaxHeight), Key: n.text(20), Count: n.number(), Addr: n.addr(), Label: n.sum()}
}

func (n *noise) tower() api.Tower {
	t := api.Tower{Head: n.below(2) == 1}
	if !t.Head {
		t.Key, t.Value = n.text(200), n.addr()
	}
	for range n.below(5) {
		t.Kids = append(t.Kids, n.kid())
	}
	return t
}

func (n *noise) limb() api.Limb { return api.Limb{Addr: n.addr(), Label: n.sum()} }

func (n *noise) leaf() api.Leaf { return api.Leaf{Version: n.number(), Label: n.sum()} }

func (n *noise) fork() api.Fork { return api.Fork{Left: n.limb(), Right: n.limb()} }

func (n *noise) page() api.Page {
	p := api.Page{Last: n.number(), Window: n.below(65), Serial: n.number(), Annal: api.Annal{Size: n.number()}}
	for range n.below(9) {
		p.Marks = append(p.Marks, api.Mark{Serial: n.number(), Used: n.below(4194305)})
	}
	for range n.below(4) {
		p.Versions = append(p.Versions, api.Version{Number: n.number(), Tree: api.Tree{Addr: n.addr(), Count: n.number(), Label: n.sum()}})
	}
	for range n.below(4) {
		p.Annal.Peaks = append(p.Annal.Peaks, api.Peak{Size: n.number(), Limb: n.limb()})
	}
	return p
}

func (n *noise) op() api.Op {
	o := api.Op{Kind: 1 + n.below(6)}
	if o.Kind >= api.OpStay {
		o.Level, o.Key, o.Count = n.below(api.MaxHeight), n.text(20), n.number()
	}
	if o.Kind == api.OpOut || o.Kind == api.OpStay || o.Kind == api.OpRight {
		o.Sum = n.sum()
	}
	if o.Kind == api.OpIn {
		o.Value = n.text(300)
	}
	return o
}

func (n *noise) proof() api.Proof {
	p := api.Proof{Count: n.number()}
	for range n.below(9) {
		p.Ops = append(p.Ops, n.op())
	}
	return p
}

func (n *noise) change() api.Change {
	c := api.Change{Key: n.text(20), Had: n.below(2) == 1}
	c.Has = !c.Had || n.below(2) == 1
	if c.Had {
		c.Old = n.text(200)
	}
	if c.Has {
		c.New = n.text(200)
	}
	return c
}

func (n *noise) message() api.Message {
	kinds := []int{api.AskHead, api.AskProof, api.AskLeaf, api.AskExtends, api.AskDelta, api.SayHead, api.SayProof, api.SayLeaf, api.SayExtends, api.SayDelta, api.SayNo}
	m := api.Message{Kind: kinds[n.below(len(kinds))]}
	switch m.Kind {
	case api.AskProof:
		m.Version, m.Span.Lo, m.Span.Open = n.number(), n.text(30), n.below(2) == 1
		if !m.Span.Open {
			m.Span.Hi = n.text(30)
		}
	case api.AskLeaf:
		m.Version = n.number()
	case api.AskExtends:
		m.Other = n.number() + 1
	case api.AskDelta:
		m.Other, m.Version = n.number(), n.number()
	case api.SayHead:
		m.Version, m.Label, m.Count, m.Head = n.number(), n.sum(), n.number(), api.Head{Size: n.number() + 1, Label: n.sum()}
	case api.SayProof:
		m.Body = n.text(300)
	case api.SayLeaf, api.SayExtends:
		for range n.below(5) {
			m.Path = append(m.Path, n.sum())
		}
	case api.SayDelta:
		for range n.below(5) {
			m.Changes = append(m.Changes, n.change())
		}
	case api.SayNo:
		m.Code = api.Errno(n.below(1000))
	}
	return m
}

// record is one sort of record, for tests that hold of all.
type record[T any] struct {
	make  func(n *noise) T
	write func(T) []byte
	read  func([]byte) (T, api.Errno)
}

// fitRecords: what is read from a fit record's bytes is that record.
func (r record[T]) fitRecords(t *testing.T) {
	n := noise{7}
	for range 2000 {
		x := r.make(&n)
		b := r.write(x)
		if y, e := r.read(b); e != api.OK || !alike(x, y) {
			t.Fatalf("2.11: %v is read as %v, %d", x, y, e)
		}
		if !bytes.Equal(b, r.write(x)) {
			t.Fatalf("2.11: %v is written in two ways", x)
		}
	}
}

// oneForm: bytes that are taken are the bytes that the record has; tried with bytes that are nearly a record's.
func (r record[T]) oneForm(t *testing.T) {
	n := noise{8}
	taken := 0
	for range 20000 {
		b := r.write(r.make(&n))
		for range n.below(3) {
			b[n.below(min(len(b), 60))] = byte(n.next())
		}
		if n.below(4) == 0 {
			at := n.below(min(len(b), 60))
			b = cat(b[:at], []byte{byte(n.next() % 3 * 64)}, b[at:])
		}
		y, e := r.read(b)
		if e != api.OK {
			continue
		}
		taken++
		if !bytes.Equal(r.write(y), b) {
			t.Fatalf("2.11: %x is taken as %v, which is written as %x", b, y, r.write(y))
		}
	}
	if taken < 1000 {
		t.Errorf("only %d of the test's tries were taken", taken)
	}
}

// noPrefix: what ends early is not taken, and is short.
func (r record[T]) noPrefix(t *testing.T) {
	n := noise{9}
	for range 50 {
		b := r.write(r.make(&n))
		for k := range b {
			if y, e := r.read(b[:k]); e != api.ErrShort {
				t.Fatalf("2.12: %d of %d bytes are read as %v, %d", k, len(b), y, e)
			}
		}
	}
}

// ownMemory: what was read does not hang on the bytes any more, nor the bytes on what was written.
func (r record[T]) ownMemory(t *testing.T) {
	n := noise{10}
	for range 200 {
		x := r.make(&n)
		b := r.write(x)
		room := append(bytes.Clone(b), 1, 2, 3, 4)
		in := room[:len(b)]
		y, e := r.read(in)
		if e != api.OK || !bytes.Equal(room, append(bytes.Clone(b), 1, 2, 3, 4)) {
			t.Fatalf("0.4: reading changed %x to %x", b, room)
		}
		for i := range in {
			in[i] ^= 255
		}
		if !alike(x, y) {
			t.Fatalf("0.4: %v became %v with its bytes", x, y)
		}
		c := r.write(y)
		for i := range c {
			c[i] ^= 255
		}
		_ = append(c, 9, 9, 9)
		if !alike(x, y) || !bytes.Equal(r.write(y), b) {
			t.Fatalf("0.4: %v became %v with what was written", x, y)
		}
	}
}

func holdRecord[T any](t *testing.T, r record[T]) {
	t.Helper()
	r.fitRecords(t)
	r.oneForm(t)
	r.ownMemory(t)
}

func TestEachRecord(t *testing.T) {
	towers := record[api.Tower]{(*noise).tower, codec.Tower, codec.ReadTower}
	leaves := record[api.Leaf]{(*noise).leaf, codec.Leaf, codec.ReadLeaf}
	forks := record[api.Fork]{(*noise).fork, codec.Fork, codec.ReadFork}
	pages := record[api.Page]{(*noise).page, codec.Page, codec.ReadPage}
	holdRecord(t, towers)
	holdRecord(t, leaves)
	holdRecord(t, forks)
	holdRecord(t, pages)
	holdRecord(t, record[api.Proof]{(*noise).proof, codec.Proof, codec.ReadProof})
	holdRecord(t, record[api.Message]{(*noise).message, codec.Message, codec.ReadMessage})
	towers.noPrefix(t)
	leaves.noPrefix(t)
	forks.noPrefix(t)
	pages.noPrefix(t)
}

// Any short bytes: no call panics, and what is taken has that one form.
func TestAnyShortBytes(t *testing.T) {
	n := noise{11}
	for range 30000 {
		b := n.text(60)
		for i := range b {
			b[i] %= 8
		}
		if p, e := codec.ReadProof(b); e == api.OK && !bytes.Equal(codec.Proof(p), b) {
			t.Errorf("2.11: the proof %x", b)
		}
		if m, e := codec.ReadMessage(b); e == api.OK && !bytes.Equal(codec.Message(m), b) {
			t.Errorf("2.11: the message %x", b)
		}
		if p, e := codec.ReadPage(b); e == api.OK && !bytes.Equal(codec.Page(p), b) {
			t.Errorf("2.11: the page %x", b)
		}
		if x, e := codec.ReadTower(b); e == api.OK && !bytes.Equal(codec.Tower(x), b) {
			t.Errorf("2.11: the tower %x", b)
		}
	}
}

func TestFitFrames(t *testing.T) {
	n := noise{12}
	for range 500 {
		serial, at := n.number(), n.below(4194304)
		f := api.Frame{Kind: byte(1 + n.below(5)), Body: n.text(500)}
		b := codec.Frame(serial, at, f)
		room := cat(b, n.text(30))
		x, k, e := codec.ReadFrame(serial, at, room)
		if e != api.OK || k != len(b) || !alike(x, f) || !bytes.Equal(codec.Frame(serial, at, x), room[:k]) {
			t.Fatalf("2.11: a frame %x: %v, %d, %d", b, x, k, e)
		}
		_ = append(x.Body, 1, 2, 3, 4, 5)
		if !bytes.Equal(room[:k], b) {
			t.Fatalf("0.4: a frame's body shares memory with its bytes")
		}
		clear(room)
		if !alike(x, f) {
			t.Fatalf("0.4: a frame's body hangs on its bytes")
		}
	}
}

func TestFitDiskRecords(t *testing.T) {
	n := noise{13}
	for range 500 {
		s := api.Super{Seq: n.number(), Size: int(uint32(n.next())), Sectors: int(uint32(n.next())), Span: int(uint32(n.next())), Page: api.Place{Seg: int(uint32(n.next())), At: int(uint32(n.next())), Len: int(uint32(n.next()))}}
		size := 52 + n.below(4096-51)
		b := codec.Super(s, size)
		if x, e := codec.ReadSuper(b); e != api.OK || x != s || !bytes.Equal(codec.Super(x, size), b) {
			t.Fatalf("2.11: %v is read as %v, %d", s, x, e)
		}
		h := codec.Header(s.Seq)
		if x, e := codec.ReadHeader(h); e != api.OK || x != s.Seq || !bytes.Equal(codec.Header(x), h) {
			t.Fatalf("2.11: the header of %d is read as %d, %d", s.Seq, x, e)
		}
	}
}
