package vault

import (
	"bytes"
	"slices"

	"witness/api"
	"witness/spans"
)

// session has the number of its base, and for each key that was edited the last edit.
type session struct {
	base  uint64
	edits map[string]edit
}

// edit of a key: it gets a value, or is gone.
type edit struct {
	value []byte
	gone  bool
}

func editOf(e api.Edit) edit {
	if e.Gone {
		return edit{gone: true}
	}
	return edit{value: bytes.Clone(e.Value)}
}

// take edits as a list says, one behind the other; none of it, if it is too much.
func (s *session) take(l []api.Edit) api.Errno {
	if len(l) > api.MaxBatch || slices.ContainsFunc(l, isTooLong) || len(s.edits)+s.fresh(l) > api.MaxBatch {
		return api.ErrLimit
	}
	for _, e := range l {
		s.edits[string(e.Key)] = editOf(e)
	}
	return api.OK
}

func isTooLong(e api.Edit) bool {
	return len(e.Key) > api.MaxKey || !e.Gone && len(e.Value) > api.MaxValue
}

// fresh is how many keys of a list were not edited yet.
func (s *session) fresh(l []api.Edit) int {
	keys := map[string]struct{}{}
	for _, e := range l {
		if _, known := s.edits[string(e.Key)]; !known {
			keys[string(e.Key)] = struct{}{}
		}
	}
	return len(keys)
}

// inOrder is the edits in the order of keys. Their values are the session's own: whoever gets them neither changes nor keeps them.
func (s *session) inOrder() []api.Edit {
	var l []api.Edit
	for key, e := range s.edits {
		l = append(l, api.Edit{Key: []byte(key), Value: e.value, Gone: e.gone})
	}
	slices.SortFunc(l, func(a, b api.Edit) int { return bytes.Compare(a.Key, b.Key) })
	return l
}

// within is the edits of the keys in a span, in the order of keys.
func (s *session) within(span api.Span) []api.Edit {
	outside := func(e api.Edit) bool { return !spans.Has(span, e.Key) }
	return slices.DeleteFunc(s.inOrder(), outside)
}
