package catalog

import (
	"slices"

	"witness/annals"
	"witness/api"
	"witness/codec"
	"witness/pages"
)

// Add commits a tree as the next version.
func (c *Catalog) Add(t api.Tree) (api.Version, api.Errno) {
	errno := c.change(func() api.Errno {
		if c.page.Last == api.MaxNumber {
			return api.ErrLast
		}
		next := c.page
		next.Last++
		leaf := api.Leaf{Version: next.Last, Label: t.Label}
		var errno api.Errno
		if next.Annal, errno = annals.Append(c.blobs, c.page.Annal, leaf); errno != api.OK {
			return errno
		}
		next.Versions = append(slices.Clone(c.page.Versions), api.Version{Number: next.Last, Tree: t})
		return c.commit(next)
	})
	if errno != api.OK {
		return api.Version{}, errno
	}
	return c.Latest(), api.OK
}

// Keep commits another window: how many versions are kept at most.
func (c *Catalog) Keep(window int) api.Errno {
	return c.change(func() api.Errno {
		if !pages.WindowFits(window) {
			return api.ErrWindow
		}
		log := c.blobs.Log()
		log.Reserve(0)
		defer log.Reserve(heldBack)
		next := c.page
		next.Window = window
		return c.commit(next)
	})
}

// Commit commits all as it is: no new version, but another page.
func (c *Catalog) Commit() api.Errno {
	return c.change(func() api.Errno { return c.commit(c.page) })
}

// change does what ends with a commit. If it does not come to that, the change of the blobs is undone, whoever began it.
func (c *Catalog) change(do func() api.Errno) (errno api.Errno) {
	c.blobs.Begin() // refused only where one has begun, which goes on
	last := c.super
	defer func() {
		if errno == api.ErrPower {
			c.refused = true
		}
		if c.super == last { // each commit has a Seq of its own
			c.blobs.Undo()
		}
	}()
	if errno := c.refusal(); errno != api.OK {
		return errno
	}
	return do()
}

// commit makes a state the one that holds: that of a page, but for the marks and the serial, which are the log's, and for versions outside its window.
func (c *Catalog) commit(p api.Page) api.Errno {
	if c.super.Seq >= api.MaxNumber {
		return api.ErrLast
	}
	p.Versions = newest(p.Versions, p.Window)
	p, place, errno := c.appendPage(p)
	if errno != api.OK {
		return errno
	}
	next := c.super
	next.Seq++
	next.Page = place
	if errno := writeSuper(c.disk, next); errno != api.OK {
		return errno
	}
	c.super, c.page = next, p
	c.blobs.End()
	c.blobs.Log().Settle()
	return api.OK
}

// newest are the last versions of a list, so many at most.
func newest(l []api.Version, most int) []api.Version { return l[max(0, len(l)-most):] }

// appendPage writes a page with the log's marks and serial as they are ahead of its own frame; it answers what was written, and where.
func (c *Catalog) appendPage(p api.Page) (api.Page, api.Place, api.Errno) {
	log := c.blobs.Log()
	p = marked(p, log.Tail())
	body := codec.Page(p)
	if !log.Fits(len(body)) {
		if errno := log.Next(); errno != api.OK {
			return api.Page{}, api.Place{}, errno
		}
		p = marked(p, log.Tail()) // the new segment's mark is another one now
		body = codec.Page(p)
	}
	place, errno := log.Append(api.Frame{Kind: api.KindPage, Body: body})
	return p, place, errno
}

func marked(p api.Page, t api.Tail) api.Page {
	p.Marks, p.Serial = t.Marks, t.Serial
	return p
}
