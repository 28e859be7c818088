package codec

import "witness/api"

// record is what knows how to be written.
type record interface {
	write(w *recordWriter)
}

// recordWriter lays down the parts of which records are made.
type recordWriter struct {
	Writer
}

func bytesOf(r record) []byte {
	var w recordWriter
	r.write(&w)
	return w.Bytes()
}

func (w *recordWriter) flag(is bool) {
	if is {
		w.Byte(1)
	} else {
		w.Byte(0)
	}
}

func (w *recordWriter) number(n int) { w.Uint(uint64(n)) }

func (w *recordWriter) word(n int) { w.Word(uint32(n)) }

func (w *recordWriter) limb(l api.Limb) {
	w.Addr(l.Addr)
	w.Sum(l.Label)
}

type tower api.Tower

func (t tower) write(w *recordWriter) {
	w.flag(t.Head)
	if !t.Head {
		w.Text(t.Key)
		w.Addr(t.Value)
	}
	w.number(len(t.Kids))
	for _, k := range t.Kids {
		w.Byte(byte(k.Level))
		w.Text(k.Key)
		w.Uint(k.Count)
		w.Addr(k.Addr)
		w.Sum(k.Label)
	}
}

type leaf api.Leaf

func (l leaf) write(w *recordWriter) {
	w.Uint(l.Version)
	w.Sum(l.Label)
}

type fork api.Fork

func (f fork) write(w *recordWriter) {
	w.limb(f.Left)
	w.limb(f.Right)
}

type page api.Page

func (p page) write(w *recordWriter) {
	w.Uint(p.Last)
	w.number(p.Window)
	w.Uint(p.Serial)
	w.number(len(p.Marks))
	for _, m := range p.Marks {
		w.Uint(m.Serial)
		w.number(m.Used)
	}
	w.number(len(p.Versions))
	for _, v := range p.Versions {
		w.Uint(v.Number)
		w.Addr(v.Tree.Addr)
		w.Uint(v.Tree.Count)
		w.Sum(v.Tree.Label)
	}
	w.Uint(p.Annal.Size)
	w.number(len(p.Annal.Peaks))
	for _, k := range p.Annal.Peaks {
		w.Uint(k.Size)
		w.limb(k.Limb)
	}
}

type proof api.Proof

func (p proof) write(w *recordWriter) {
	w.Uint(p.Count)
	for _, o := range p.Ops {
		w.op(o)
	}
}

func (w *recordWriter) op(o api.Op) {
	w.Byte(byte(o.Kind))
	switch o.Kind {
	case api.OpIn:
		w.Text(o.Value)
	case api.OpOut:
		w.Sum(o.Sum)
	case api.OpStay, api.OpRight:
		w.neighbour(o)
		w.Sum(o.Sum)
	case api.OpBoth:
		w.neighbour(o)
	}
}

// neighbour is what each op says of the tower that it meets.
func (w *recordWriter) neighbour(o api.Op) {
	w.Byte(byte(o.Level))
	w.Text(o.Key)
	w.Uint(o.Count)
}
