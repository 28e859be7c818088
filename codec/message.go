package codec

import "witness/api"

// Bounds of a message's fields.
const (
	maxSums    = 128
	maxCode    = 999
	maxChanges = api.MaxProof
	maxBound   = api.MaxKey + 1 // of a span: the key just behind the longest one
)

// What a change's first byte is made of.
const (
	hadBit = 1
	hasBit = 2
)

type message api.Message

func (m message) write(w *recordWriter) {
	w.Byte(byte(m.Kind))
	switch m.Kind {
	case api.AskProof:
		w.Uint(m.Version)
		w.span(m.Span)
	case api.AskLeaf:
		w.Uint(m.Version)
	case api.AskExtends:
		w.Uint(m.Other)
	case api.AskDelta:
		w.Uint(m.Other)
		w.Uint(m.Version)
	case api.SayHead:
		w.Uint(m.Version)
		w.Sum(m.Label)
		w.Uint(m.Count)
		w.Uint(m.Head.Size)
		w.Sum(m.Head.Label)
	case api.SayProof:
		w.Text(m.Body)
	case api.SayLeaf, api.SayExtends:
		w.path(m.Path)
	case api.SayDelta:
		w.changes(m.Changes)
	case api.SayNo:
		w.number(int(m.Code))
	}
}

func (w *recordWriter) span(s api.Span) {
	w.flag(s.Open)
	w.Text(s.Lo)
	if !s.Open {
		w.Text(s.Hi)
	}
}

func (w *recordWriter) path(path []api.Sum) {
	w.number(len(path))
	for _, s := range path {
		w.Sum(s)
	}
}

func (w *recordWriter) changes(list []api.Change) {
	w.number(len(list))
	for _, c := range list {
		w.change(c)
	}
}

func (w *recordWriter) change(c api.Change) {
	var sides byte
	if c.Had {
		sides |= hadBit
	}
	if c.Has {
		sides |= hasBit
	}
	w.Byte(sides)
	w.Text(c.Key)
	if c.Had {
		w.Text(c.Old)
	}
	if c.Has {
		w.Text(c.New)
	}
}

func (r *recordReader) message() api.Message {
	var m api.Message
	m.Kind = int(r.Byte())
	switch m.Kind {
	case api.AskHead:
	case api.AskProof:
		m.Version = r.number()
		m.Span = r.span()
	case api.AskLeaf:
		m.Version = r.number()
	case api.AskExtends:
		m.Other = r.Uint(api.MaxNumber + 1)
	case api.AskDelta:
		m.Other = r.number()
		m.Version = r.number()
	case api.SayHead:
		m.Version = r.number()
		m.Label = r.Sum()
		m.Count = r.number()
		m.Head.Size = r.Uint(api.MaxNumber + 1)
		m.Head.Label = r.Sum()
	case api.SayProof:
		m.Body = r.Text(api.MaxProof)
	case api.SayLeaf, api.SayExtends:
		m.Path = many(r, r.Uint(maxSums), (*recordReader).Sum)
	case api.SayDelta:
		m.Changes = many(r, r.Uint(maxChanges), (*recordReader).change)
	case api.SayNo:
		m.Code = api.Errno(r.Uint(maxCode))
	default:
		r.Fail(api.ErrKind)
	}
	return m
}

func (r *recordReader) span() api.Span {
	var s api.Span
	s.Open = r.flag()
	s.Lo = r.Text(maxBound)
	if !s.Open {
		s.Hi = r.Text(maxBound)
	}
	return s
}

func (r *recordReader) change() api.Change {
	var c api.Change
	sides := r.Byte()
	if sides == 0 || sides > hadBit|hasBit {
		r.Fail(api.ErrForm)
	}
	c.Had = sides&hadBit != 0
	c.Has = sides&hasBit != 0
	c.Key = r.key()
	if c.Had {
		c.Old = r.Text(api.MaxValue)
	}
	if c.Has {
		c.New = r.Text(api.MaxValue)
	}
	return c
}
