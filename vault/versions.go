package vault

import (
	"bytes"
	"iter"

	"witness/annals"
	"witness/api"
	"witness/prove"
	"witness/skip"
	"witness/sweep"
)

// Versions is the versions that are kept.
func (v *Vault) Versions() ([]api.Version, error) {
	if err := v.lives(); err != nil {
		return nil, err
	}
	return v.catalog.Page().Versions, nil
}

// GetAt is a key's value in a version.
func (v *Vault) GetAt(version uint64, key []byte) ([]byte, bool, error) {
	tree, err := v.treeAt(version)
	if err != nil {
		return nil, false, err
	}
	value, there, errno := skip.Get(v.blobs(), tree, key)
	return value, there, v.told(errno)
}

// RangeAt is the first entries of a span in a version.
func (v *Vault) RangeAt(version uint64, s api.Span, most int) ([]api.Entry, bool, error) {
	tree, err := v.treeAt(version)
	if err != nil {
		return nil, false, err
	}
	l, more, errno := sweep.Range(v.blobs(), tree, s, most)
	return l, more, v.told(errno)
}

// Each gives the entries of a version, in the order of keys; an error is given once, and ends it.
func (v *Vault) Each(version uint64, s api.Span) iter.Seq2[api.Entry, error] {
	s.Lo, s.Hi = bytes.Clone(s.Lo), bytes.Clone(s.Hi)
	return func(yield func(api.Entry, error) bool) {
		tree, err := v.treeAt(version) // asked when it is ranged over: it may have gone since
		if err != nil {
			yield(api.Entry{}, err)
			return
		}
		for entry, errno := range sweep.Each(v.blobs(), tree, s) {
			if !yield(entry, v.told(errno)) {
				return
			}
		}
	}
}

// Diff is the changes from one version to another.
func (v *Vault) Diff(from, to uint64) ([]api.Change, error) {
	old, err := v.treeAt(from)
	if err != nil {
		return nil, err
	}
	now, err := v.kept(to)
	if err != nil {
		return nil, err
	}
	var l []api.Change
	for change, errno := range sweep.Diff(v.blobs(), old, now) {
		if errno != api.OK {
			return nil, v.told(errno)
		}
		l = append(l, change)
	}
	return l, nil
}

// ProveAt is the proof of a span of a version.
func (v *Vault) ProveAt(version uint64, s api.Span) ([]byte, error) {
	tree, err := v.treeAt(version)
	if err != nil {
		return nil, err
	}
	proof, errno := prove.Span(v.blobs(), tree, s)
	return proof, v.told(errno)
}

// Head is the head of the annals.
func (v *Vault) Head() (api.Head, error) {
	if err := v.lives(); err != nil {
		return api.Head{}, err
	}
	return annals.Head(v.catalog.Page().Annal), nil
}

// Included is the path that shows a version's leaf in the annals.
func (v *Vault) Included(version uint64) ([]api.Sum, error) {
	if err := v.lives(); err != nil {
		return nil, err
	}
	if version > v.catalog.Latest().Number {
		return nil, &api.VersionError{Number: version, Err: api.ErrVersion}
	}
	path, errno := annals.Inclusion(v.blobs(), v.catalog.Page().Annal, version)
	return path, v.told(errno)
}

// Extends is the path that shows that the annals of an older size became the present ones.
func (v *Vault) Extends(size uint64) ([]api.Sum, error) {
	if err := v.lives(); err != nil {
		return nil, err
	}
	path, errno := annals.Consistency(v.blobs(), v.catalog.Page().Annal, size)
	return path, v.told(errno)
}

// treeAt is the tree of a version that is kept, if the vault lives.
func (v *Vault) treeAt(number uint64) (api.Tree, error) {
	if err := v.lives(); err != nil {
		return api.Tree{}, err
	}
	return v.kept(number)
}

// kept is the tree of a version that is kept.
func (v *Vault) kept(number uint64) (api.Tree, error) {
	version, errno := v.catalog.Version(number)
	if errno != api.OK {
		return api.Tree{}, &api.VersionError{Number: number, Err: errno}
	}
	return version.Tree, nil
}
