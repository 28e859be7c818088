package sweep

import (
	"bytes"
	"iter"
	"slices"

	"witness/api"
	"witness/heaps"
	"witness/spans"
)

// coming is what comes next out of a base, or out of edits.
type coming struct {
	entry api.Entry
	errno api.Errno // a base's alone
	edit  bool
	gone  bool
}

func copyOfEntry(e api.Entry) api.Entry {
	return api.Entry{Key: bytes.Clone(e.Key), Value: bytes.Clone(e.Value)}
}

// copiesIn is those edits whose keys lie in a span, as what comes out of them.
func copiesIn(s api.Span, l []api.Edit) []coming {
	var edits []coming
	for _, e := range l {
		switch {
		case !spans.Has(s, e.Key):
		case e.Gone:
			edits = append(edits, coming{entry: api.Entry{Key: bytes.Clone(e.Key)}, edit: true, gone: true})
		default:
			edits = append(edits, coming{entry: copyOfEntry(api.Entry{Key: e.Key, Value: e.Value}), edit: true})
		}
	}
	return edits
}

// outOf is what comes out of a base; nothing behind its first error.
func outOf(base iter.Seq2[api.Entry, api.Errno]) iter.Seq[coming] {
	if base == nil {
		return nil
	}
	return func(yield func(coming) bool) {
		for entry, errno := range base {
			if errno != api.OK {
				yield(coming{errno: errno})
				return
			}
			if !yield(coming{entry: entry}) {
				return
			}
		}
	}
}

// comesFirst is the order of keys; an error comes ahead of whatever the edits have left.
func comesFirst(c, d coming) int {
	switch {
	case c.errno != api.OK:
		return -1
	case d.errno != api.OK:
		return 1
	}
	return bytes.Compare(c.entry.Key, d.entry.Key)
}

// mixed gives what a base gives, with edits in the place of what has their keys.
func mixed(base iter.Seq2[api.Entry, api.Errno], edits []coming) iter.Seq[coming] {
	return func(yield func(coming) bool) {
		var last coming // of the edits
		for c := range heaps.Merge(comesFirst, slices.Values(edits), outOf(base)) {
			if c.edit {
				last = c
			}
			if c.gone || stands(last, c) {
				continue
			}
			if !yield(c) {
				return
			}
		}
	}
}

// stands tells whether the last edit stands in the place of an entry of the base: of equal keys the edit's comes first.
func stands(last, c coming) bool {
	return last.edit && !c.edit && c.errno == api.OK && bytes.Equal(last.entry.Key, c.entry.Key)
}
