package console

import (
	"strconv"

	"witness/api"
	"witness/audit"
	"witness/digest"
	"witness/disk"
)

const maxDisk = 1 << 20 // bytes of a disk that a script may make

// diskOf is a new disk.
func diskOf(sectors, size argument) (*disk.Disk, error) {
	d, errno := disk.New(sectors.asInt(), size.asInt())
	if errno != api.OK {
		return nil, errno
	}
	if d.Sectors()*d.Size() > maxDisk {
		return nil, api.ErrSize
	}
	return d, nil
}

func (c *Console) makeDisk(a []argument) (string, error) {
	d, err := diskOf(a[0], a[1])
	if err != nil {
		return "", err
	}
	c.disk, c.rotten = d, false
	c.hold(nil)
	return done, nil
}

func (c *Console) fuse(a []argument) (string, error) {
	c.disk.Fuse(a[0].asInt())
	return done, nil
}

func (c *Console) crash(a []argument) (string, error) {
	crash := api.Crash{Torn: -1}
	if len(a) > 0 {
		crash.Keep = a[0].keep
	}
	if len(a) > 1 {
		crash.Torn, crash.At = a[1].asInt(), a[2].asInt()
	}
	c.disk.Crash(crash)
	return done, nil
}

func (c *Console) rot(a []argument) (string, error) {
	if errno := c.disk.Rot(a[0].asInt(), a[1].asInt(), byte(a[2].number)); errno != api.OK {
		return "", errno
	}
	c.rotten = true
	c.hold(nil)
	return done, nil
}

func (c *Console) audit(a []argument) (string, error) {
	report, errno := audit.Run(c.disk, a[0].asInt())
	if errno != api.OK {
		return "", errno
	}
	if audit.Clean(report) {
		return "clean", nil
	}
	return toldFindings(report.Findings), nil
}

func (c *Console) stats([]argument) (string, error) {
	s := c.disk.Stats()
	pending := strconv.Itoa(len(c.disk.Pending()))
	return spaced("writes", decimal(s.Writes), "flushes", decimal(s.Flushes), "pending", pending), nil
}

func (c *Console) image([]argument) (string, error) {
	return digest.Hex(digest.Of(c.disk.Image())), nil
}
