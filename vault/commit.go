package vault

import (
	"bytes"

	"witness/api"
	"witness/skip"
	"witness/sweep"
)

// Commit makes a session's edits the next version: its number.
func (v *Vault) Commit(session int) (uint64, error) {
	s, base, err := v.playing(session)
	if err != nil {
		return 0, err
	}
	number := s.base
	if len(s.edits) > 0 {
		if number, err = v.commit(s, base); err != nil {
			return 0, err
		}
	}
	delete(v.sessions, session)
	return number, nil
}

// commit makes a new version of the newest one by a session's edits, unless somebody else was ahead of it.
func (v *Vault) commit(s *session, base api.Tree) (uint64, error) {
	newest, edits := v.catalog.Latest(), s.inOrder()
	if s.base != newest.Number {
		if err := v.conflict(base, newest.Tree, edits); err != nil {
			return 0, err
		}
	}
	version, errno := v.add(newest.Tree, edits)
	return version.Number, v.told(errno)
}

// conflict is the least edited key that is not the same in two trees, told as an error; nil, if there is none.
func (v *Vault) conflict(base, newest api.Tree, edits []api.Edit) error {
	if base == newest {
		return nil
	}
	for _, e := range edits {
		same, errno := v.isSame(base, newest, e.Key)
		switch {
		case errno != api.OK:
			return v.told(errno)
		case !same:
			return &api.KeyError{Key: e.Key, Err: api.ErrConflict}
		}
	}
	return nil
}

// isSame tells whether a key is in neither of two trees, or in both with one value.
func (v *Vault) isSame(base, newest api.Tree, key []byte) (bool, api.Errno) {
	old, was, errno := skip.Get(v.blobs(), base, key)
	if errno != api.OK {
		return false, errno
	}
	now, is, errno := skip.Get(v.blobs(), newest, key)
	if errno != api.OK {
		return false, errno
	}
	return was == is && bytes.Equal(old, now), api.OK
}

// add commits a tree with edits as the next version; if it does not come to that, all is as it was.
func (v *Vault) add(t api.Tree, edits []api.Edit) (api.Version, api.Errno) {
	b := v.blobs()
	if errno := b.Begin(); errno != api.OK {
		return api.Version{}, errno
	}
	t, errno := sweep.Apply(b, t, edits)
	if errno != api.OK {
		b.Undo()
		return api.Version{}, errno
	}
	return v.catalog.Add(t) // which undoes all of it itself, where it is refused
}
