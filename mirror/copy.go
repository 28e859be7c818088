package mirror

import (
	"bytes"
	"slices"

	"witness/api"
)

// copied is the copy's map as it is now.
func (m *Mirror) copied() ([]api.Entry, error) {
	version, err := newest(m.vault)
	if err != nil {
		return nil, err
	}
	var l []api.Entry
	for entry, err := range m.vault.Each(version.Number, api.Span{Open: true}) {
		if err != nil {
			return nil, err
		}
		l = append(l, entry)
	}
	return l, nil
}

// become makes the copy, whose map is known, the new version's map, and ends the round.
func (m *Mirror) become(old, now []api.Entry) error {
	for edits := range slices.Chunk(editsFrom(old, now), api.MaxBatch) {
		if err := m.commit(edits); err != nil {
			return err
		}
	}
	return m.endsWell()
}

// commit makes a version of the copy by edits, in a session that is over behind it.
func (m *Mirror) commit(edits []api.Edit) error {
	session, err := m.vault.Begin()
	if err != nil {
		return err
	}
	if err = m.vault.Batch(session, edits); err == nil {
		_, err = m.vault.Commit(session)
	}
	if err != nil {
		m.vault.Abort(session) // of a vault that is dead it is over anyway
	}
	return err
}

// changed is a map behind changes, one behind the other.
func changed(l []api.Entry, changes []api.Change) []api.Entry {
	values := map[string][]byte{}
	for _, e := range l {
		values[string(e.Key)] = e.Value
	}
	for _, c := range changes {
		if c.Has {
			values[string(c.Key)] = c.New
		} else {
			delete(values, string(c.Key))
		}
	}
	var now []api.Entry
	for key, value := range values {
		now = append(now, api.Entry{Key: []byte(key), Value: value})
	}
	slices.SortFunc(now, func(a, b api.Entry) int { return bytes.Compare(a.Key, b.Key) })
	return now
}

// editsFrom is what makes one map of another: an edit for each key in which they are unlike, in the order of keys.
func editsFrom(old, now []api.Entry) []api.Edit {
	var l []api.Edit
	for len(old) > 0 || len(now) > 0 {
		switch order := aheadOf(old, now); {
		case order < 0:
			l, old = append(l, api.Edit{Key: old[0].Key, Gone: true}), old[1:]
		case order > 0:
			l, now = append(l, api.Edit{Key: now[0].Key, Value: now[0].Value}), now[1:]
		default:
			if !bytes.Equal(old[0].Value, now[0].Value) {
				l = append(l, api.Edit{Key: now[0].Key, Value: now[0].Value})
			}
			old, now = old[1:], now[1:]
		}
	}
	return l
}

// aheadOf is below 0, if the next key of two lists is the first one's alone; above 0, if it is the other one's alone; else 0.
func aheadOf(old, now []api.Entry) int {
	switch {
	case len(now) == 0:
		return -1
	case len(old) == 0:
		return 1
	}
	return bytes.Compare(old[0].Key, now[0].Key)
}
