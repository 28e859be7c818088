package console

import (
	"slices"
	"strconv"

	"witness/annals"
	"witness/api"
	"witness/digest"
	"witness/verify"
)

const fewDigits = 16 // of a proof's digest

func (c *Console) versions([]argument) (string, error) {
	l, err := c.vault.Versions()
	return toldVersions(l), err
}

// label is the root label of a version that is kept.
func (c *Console) label(version uint64) (api.Sum, error) {
	l, err := c.vault.Versions()
	if err != nil {
		return api.Sum{}, err
	}
	i := slices.IndexFunc(l, func(v api.Version) bool { return v.Number == version })
	if i < 0 {
		return api.Sum{}, &api.VersionError{Number: version, Err: api.ErrVersion}
	}
	return l[i].Tree.Label, nil
}

func (c *Console) root(a []argument) (string, error) {
	label, err := c.label(a[0].number)
	return digest.Hex(label), err
}

func (c *Console) at(a []argument) (string, error) {
	value, there, err := c.vault.GetAt(a[0].number, a[1].asBytes())
	return toldValue(value, there), err
}

func (c *Console) scan(a []argument) (string, error) {
	l, more, err := c.vault.RangeAt(a[0].number, spanOf(a[1], a[2]), a[3].asInt())
	return toldEntries(l, more), err
}

func (c *Console) diff(a []argument) (string, error) {
	l, err := c.vault.Diff(a[0].number, a[1].number)
	return toldChanges(l), err
}

func (c *Console) prove(a []argument) (string, error) {
	label, err := c.label(a[0].number)
	if err != nil {
		return "", err
	}
	span := spanOf(a[1], a[2])
	proof, err := c.vault.ProveAt(a[0].number, span)
	if err != nil {
		return "", err
	}
	shown, errno := verify.Span(label, span, proof)
	if errno != api.OK {
		return "", errno
	}
	few := digest.Hex(digest.Of(proof))[:fewDigits]
	return spaced(done, strconv.Itoa(len(proof)), few, decimal(shown.Rank), strconv.Itoa(len(shown.Entries))), nil
}

func (c *Console) check(a []argument) (string, error) {
	shown, errno := verify.Span(a[0].sum, spanOf(a[1], a[2]), a[3].proof)
	if errno != api.OK {
		return "", errno
	}
	return spaced(done, decimal(shown.Rank), decimal(shown.Count), strconv.Itoa(len(shown.Entries))), nil
}

func (c *Console) head([]argument) (string, error) {
	head, err := c.vault.Head()
	return toldHead(head), err
}

func (c *Console) shown(a []argument) (string, error) {
	version := a[0].number
	label, err := c.label(version)
	if err != nil {
		return "", err
	}
	path, err := c.vault.Included(version)
	if err != nil {
		return "", err
	}
	head, err := c.vault.Head()
	if err != nil {
		return "", err
	}
	return toldPath(path, annals.Included(head, version, api.Leaf{Version: version, Label: label}, path))
}

func (c *Console) grown(a []argument) (string, error) {
	path, err := c.vault.Extends(a[0].number)
	if err != nil {
		return "", err
	}
	head, err := c.vault.Head()
	if err != nil {
		return "", err
	}
	return toldPath(path, annals.Extends(api.Head{Size: a[0].number, Label: a[1].sum}, head, path))
}

// toldPath is a path, and whether it shows what it should.
func toldPath(path []api.Sum, errno api.Errno) (string, error) {
	if errno != api.OK {
		return "", errno
	}
	return spaced(done, strconv.Itoa(len(path))), nil
}
