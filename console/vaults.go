package console

import (
	"strconv"

	"witness/api"
	"witness/vault"
)

func (c *Console) formatDisk(a []argument) (string, error) {
	c.hold(nil)
	if err := vault.Format(c.disk, a[0].asInt(), a[1].asInt()); err != nil {
		return "", err
	}
	c.rotten = false
	return done, nil
}

func (c *Console) openVault([]argument) (string, error) {
	if c.rotten {
		return "", api.ErrCheck
	}
	v, err := vault.Open(c.disk)
	if err != nil {
		return "", err
	}
	version, err := newest(v)
	if err != nil {
		return "", err
	}
	c.hold(v)
	return spaced(done, decimal(version.Number)), nil
}

// newest is a vault's newest version.
func newest(v *vault.Vault) (api.Version, error) {
	l, err := v.Versions()
	if err != nil {
		return api.Version{}, err
	}
	return l[len(l)-1], nil // a vault has one, always
}

func (c *Console) closeVault([]argument) (string, error) {
	if err := c.vault.Close(); err != nil {
		return "", err
	}
	c.hold(nil)
	return done, nil
}

func (c *Console) begin(a []argument) (string, error) {
	session, err := c.begun(a[1:])
	if err != nil {
		return "", err
	}
	c.names[a[0].text] = session
	return done, nil
}

// begun is a new session, at a version, if one is named.
func (c *Console) begun(version []argument) (int, error) {
	if len(version) == 0 {
		return c.vault.Begin()
	}
	return c.vault.BeginAt(version[0].number)
}

// session is the one that a name stands for.
func (c *Console) session(name argument) int { return c.names[name.text] }

func (c *Console) put(a []argument) (string, error) {
	return done, c.vault.Put(c.session(a[0]), a[1].asBytes(), a[2].asBytes())
}

func (c *Console) del(a []argument) (string, error) {
	return done, c.vault.Delete(c.session(a[0]), a[1].asBytes())
}

func (c *Console) get(a []argument) (string, error) {
	value, there, err := c.vault.Get(c.session(a[0]), a[1].asBytes())
	return toldValue(value, there), err
}

func (c *Console) entries(a []argument) (string, error) {
	l, more, err := c.vault.Range(c.session(a[0]), spanOf(a[1], a[2]), a[3].asInt())
	return toldEntries(l, more), err
}

func (c *Console) commit(a []argument) (string, error) {
	version, err := c.vault.Commit(c.session(a[0]))
	if err != nil {
		return "", err
	}
	delete(c.names, a[0].text)
	return decimal(version), nil
}

func (c *Console) abort(a []argument) (string, error) {
	if err := c.vault.Abort(c.session(a[0])); err != nil {
		return "", err
	}
	delete(c.names, a[0].text)
	return done, nil
}

func (c *Console) retain(a []argument) (string, error) {
	return done, c.vault.Retain(a[0].asInt())
}

func (c *Console) compact([]argument) (string, error) {
	freed, err := c.vault.Compact()
	return strconv.Itoa(freed), err
}
