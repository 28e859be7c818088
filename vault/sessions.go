package vault

import (
	"bytes"
	"errors"
	"maps"
	"slices"

	"witness/api"
	"witness/skip"
	"witness/spans"
	"witness/sweep"
)

// Begin begins a session on the newest version: its number.
func (v *Vault) Begin() (int, error) {
	if err := v.lives(); err != nil {
		return 0, err
	}
	return v.begin(v.catalog.Latest().Number)
}

// BeginAt begins a session on a version that is kept.
func (v *Vault) BeginAt(version uint64) (int, error) {
	if _, err := v.treeAt(version); err != nil {
		return 0, err
	}
	return v.begin(version)
}

func (v *Vault) begin(base uint64) (int, error) {
	if len(v.sessions) >= api.MaxSessions {
		return 0, api.ErrSessions
	}
	v.begun++
	v.sessions[v.begun] = &session{base: base, edits: map[string]edit{}}
	return v.begun, nil
}

// Put, Delete and Batch edit what a session has.
func (v *Vault) Put(session int, key, value []byte) error {
	return v.Batch(session, []api.Edit{{Key: key, Value: value}})
}

func (v *Vault) Delete(session int, key []byte) error {
	return v.Batch(session, []api.Edit{{Key: key, Gone: true}})
}

func (v *Vault) Batch(session int, l []api.Edit) error {
	s, _, err := v.playing(session)
	if err != nil {
		return err
	}
	return asError(s.take(l))
}

// Get is a key's value, as a session sees it; false: it is not there.
func (v *Vault) Get(session int, key []byte) ([]byte, bool, error) {
	s, base, err := v.playing(session)
	if err != nil {
		return nil, false, err
	}
	if e, edited := s.edits[string(key)]; edited {
		return bytes.Clone(e.value), !e.gone, nil
	}
	value, there, errno := skip.Get(v.blobs(), base, key)
	return value, there, v.told(errno)
}

// Range is the first entries of a span, as a session sees them; whether there are more.
func (v *Vault) Range(session int, s api.Span, most int) ([]api.Entry, bool, error) {
	x, base, err := v.playing(session)
	if err != nil {
		return nil, false, err
	}
	l, more, errno := v.first(base, x.within(s), s, most)
	return l, more, v.told(errno)
}

// first is the first entries of a span of a tree behind edits of keys in that span; whether there are more.
func (v *Vault) first(t api.Tree, edits []api.Edit, s api.Span, most int) ([]api.Entry, bool, api.Errno) {
	if len(edits) == 0 { // then there is no need of the value behind the last entry
		return sweep.Range(v.blobs(), t, s, most)
	}
	if errno := spans.Refused(s, most); errno != api.OK {
		return nil, false, errno
	}
	var l []api.Entry
	for entry, errno := range sweep.Mix(sweep.Each(v.blobs(), t, s), edits, s) {
		switch {
		case errno != api.OK:
			return nil, false, errno
		case len(l) == most:
			return l, true, api.OK
		}
		l = append(l, entry)
	}
	return l, false, api.OK
}

// Abort ends a session.
func (v *Vault) Abort(session int) error {
	if _, err := v.open(session); err != nil {
		return err
	}
	delete(v.sessions, session)
	return nil
}

// Sessions is the numbers of the open sessions.
func (v *Vault) Sessions() []int {
	if v.isNone() {
		return nil
	}
	return slices.Sorted(maps.Keys(v.sessions))
}

// open is a session that is open, if the vault lives.
func (v *Vault) open(number int) (*session, error) {
	if err := v.lives(); err != nil {
		return nil, err
	}
	s, ok := v.sessions[number]
	if !ok {
		return nil, api.ErrSession
	}
	return s, nil
}

// playing is a session of which more than its end can be asked, and its base's tree.
func (v *Vault) playing(number int) (*session, api.Tree, error) {
	s, err := v.open(number)
	if err != nil {
		return nil, api.Tree{}, err
	}
	base, err := v.kept(s.base)
	var gone *api.VersionError
	if errors.As(err, &gone) {
		return nil, api.Tree{}, &api.VersionError{Number: gone.Number, Err: api.ErrStale}
	}
	return s, base, err
}
