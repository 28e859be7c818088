package console

import (
	"witness/api"
	"witness/mirror"
	"witness/vault"
)

func (c *Console) makeMirror(a []argument) (string, error) {
	v, err := vaultOf(a[0], a[1], a[2], a[3])
	if err != nil {
		c.mirror, c.copy = nil, nil
		return "", err
	}
	c.mirror, c.copy = mirror.New(v, api.Head{}), v
	return done, nil
}

// vaultOf is a vault over a new disk.
func vaultOf(sectors, size, span, window argument) (*vault.Vault, error) {
	d, err := diskOf(sectors, size)
	if err != nil {
		return nil, err
	}
	if err := vault.Format(d, span.asInt(), window.asInt()); err != nil {
		return nil, err
	}
	return vault.Open(d)
}

func (c *Console) sync([]argument) (string, error) { return c.round(0, 0) }

func (c *Console) lie(a []argument) (string, error) {
	return c.round(a[0].number, byte(a[1].number))
}

// round plays one of the mirror's, with bits turned in a byte of each answer.
func (c *Console) round(place uint64, bits byte) (string, error) {
	if errno := c.mirror.Start(); errno != api.OK {
		return "", errno
	}
	for question, ok := c.mirror.Ask(); ok; question, ok = c.mirror.Ask() {
		answer := mirror.Serve(c.vault, question)
		answer[place%uint64(len(answer))] ^= bits
		if err := c.mirror.Hear(answer); err != nil {
			return "", err
		}
	}
	version, _ := c.mirror.Done()
	return spaced(done, decimal(version)), nil
}

func (c *Console) copied(a []argument) (string, error) {
	version, err := newest(c.copy)
	if err != nil {
		return "", err
	}
	value, there, err := c.copy.GetAt(version.Number, a[0].asBytes())
	return toldValue(value, there), err
}

func (c *Console) trusted([]argument) (string, error) { return toldHead(c.mirror.Trusted()), nil }
