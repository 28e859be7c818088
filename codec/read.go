package codec

import "witness/api"

// Bounds of the lists of a page.
const (
	maxMarks = api.MaxSectors / 2
	maxPeaks = 63
)

// recordReader takes up the parts of which records are made.
type recordReader struct {
	Reader
}

// readWhole is the record that b is, from its first byte to its last; nothing of b is kept, so b is read where it lies.
func readWhole[T any](b []byte, read func(r *recordReader) T) (T, api.Errno) {
	r := recordReader{Reader{text: b}}
	got := read(&r)
	if e := r.End(); e != api.OK {
		var none T
		return none, e
	}
	return got, api.OK
}

// many is n things one behind the other. Whoever made the bytes may have written any n: so no more room is made than there are bytes, and it ends at the first thing that is wrong.
func many[T any](r *recordReader, n uint64, one func(r *recordReader) T) []T {
	list := make([]T, 0, min(n, uint64(r.Left())))
	for i := uint64(0); i < n && r.Err() == api.OK; i++ {
		list = append(list, one(r))
	}
	return list
}

func (r *recordReader) flag() bool {
	b := r.Byte()
	if b > 1 {
		r.Fail(api.ErrForm)
	}
	return b == 1
}

func (r *recordReader) number() uint64 { return r.Uint(api.MaxNumber) }

func (r *recordReader) key() []byte { return r.Text(api.MaxKey) }

func (r *recordReader) level() int {
	b := r.Byte()
	if b > api.MaxHeight-1 {
		r.Fail(api.ErrLong)
	}
	return int(b)
}

func (r *recordReader) limb() api.Limb {
	var l api.Limb
	l.Addr = r.Addr()
	l.Label = r.Sum()
	return l
}

func (r *recordReader) tower() api.Tower {
	var t api.Tower
	t.Head = r.flag()
	if !t.Head {
		t.Key = r.key()
		t.Value = r.Addr()
	}
	t.Kids = many(r, r.Uint(api.MaxHeight), (*recordReader).kid)
	return t
}

func (r *recordReader) kid() api.Kid {
	var k api.Kid
	k.Level = r.level()
	k.Key = r.key()
	k.Count = r.number()
	k.Addr = r.Addr()
	k.Label = r.Sum()
	return k
}

func (r *recordReader) leaf() api.Leaf {
	var l api.Leaf
	l.Version = r.number()
	l.Label = r.Sum()
	return l
}

func (r *recordReader) fork() api.Fork {
	var f api.Fork
	f.Left = r.limb()
	f.Right = r.limb()
	return f
}

func (r *recordReader) page() api.Page {
	var p api.Page
	p.Last = r.number()
	p.Window = int(r.Uint(api.MaxWindow))
	p.Serial = r.number()
	p.Marks = many(r, r.Uint(maxMarks), (*recordReader).mark)
	p.Versions = many(r, r.Uint(api.MaxWindow), (*recordReader).version)
	p.Annal.Size = r.Uint(api.MaxNumber + 1)
	p.Annal.Peaks = many(r, r.Uint(maxPeaks), (*recordReader).peak)
	return p
}

func (r *recordReader) mark() api.Mark {
	var m api.Mark
	m.Serial = r.number()
	m.Used = int(r.Uint(maxUsed))
	return m
}

func (r *recordReader) version() api.Version {
	var v api.Version
	v.Number = r.number()
	v.Tree.Addr = r.Addr()
	v.Tree.Count = r.number()
	v.Tree.Label = r.Sum()
	return v
}

func (r *recordReader) peak() api.Peak {
	var p api.Peak
	p.Size = r.number()
	p.Limb = r.limb()
	return p
}

func (r *recordReader) proof() api.Proof {
	var p api.Proof
	p.Count = r.number()
	n := r.opsLeft()
	p.Ops = make([]api.Op, 0, n)
	for range n {
		p.Ops = append(p.Ops, r.op())
	}
	return p
}

// opsLeft is how many ops are left, none if one is wrong. An op may have a hundred times the room of its bytes: so they are counted first, and the list is made once.
func (r *recordReader) opsLeft() int {
	ahead := *r
	n := 0
	for ahead.Err() == api.OK && ahead.Left() > 0 {
		ahead.op()
		n++
	}
	if ahead.Err() != api.OK {
		r.Fail(ahead.Err())
		return 0
	}
	return n
}

func (r *recordReader) op() api.Op {
	var o api.Op
	o.Kind = int(r.Byte())
	switch o.Kind {
	case api.OpIn:
		o.Value = r.Text(api.MaxValue)
	case api.OpOut:
		o.Sum = r.Sum()
	case api.OpHead:
	case api.OpStay, api.OpRight:
		r.neighbour(&o)
		o.Sum = r.Sum()
	case api.OpBoth:
		r.neighbour(&o)
	default:
		r.Fail(api.ErrKind)
	}
	return o
}

func (r *recordReader) neighbour(o *api.Op) {
	o.Level = r.level()
	o.Key = r.key()
	o.Count = r.number()
}
