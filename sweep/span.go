package sweep

import (
	"bytes"
	"iter"
	"slices"

	"witness/api"
	"witness/blobs"
	"witness/skip"
	"witness/spans"
	"witness/trees"
)

func less(a, b []byte) bool { return bytes.Compare(a, b) < 0 }

// copyOf is a span that its maker can't change any more.
func copyOf(s api.Span) api.Span {
	c := api.Span{Lo: bytes.Clone(s.Lo), Open: s.Open}
	if !s.Open {
		c.Hi = bytes.Clone(s.Hi)
	}
	return c
}

// behind is what a span has behind a key.
func behind(s api.Span, key []byte) api.Span {
	s.Lo = slices.Concat(key, []byte{0}) // no key lies between the two
	return s
}

// wayOf is the towers of a text's way. What is longer than a key goes the way of what it begins with: no key lies between the two.
func wayOf(b *blobs.Blobs, t api.Tree, key []byte) ([]api.Tower, api.Errno) {
	return skip.Path(b, t, key[:min(len(key), api.MaxKey)])
}

// above is how many kids have keys above the key; they are the first ones.
func above(kids []api.Kid, key []byte) int {
	i := slices.IndexFunc(kids, func(k api.Kid) bool { return !less(key, k.Key) })
	if i < 0 {
		return len(kids)
	}
	return i
}

// aheadOfWay is the kids that the way of a key leaves behind: those ahead of the one to which it goes on.
func aheadOfWay(kids []api.Kid, key []byte) []api.Kid {
	return kids[min(above(kids, key)+1, len(kids)):]
}

// kidWith is the kid at which the i-th of the keys that hang at some kids hangs, and how many of those ahead of it hang there too.
func kidWith(kids []api.Kid, i uint64) (api.Kid, uint64) {
	for _, k := range slices.Backward(kids) {
		if i < k.Count {
			return k, i
		}
		i -= k.Count
	}
	return api.Kid{}, 0 // at no tower whose Count is true
}

// entryOf is a tower's.
func entryOf(b *blobs.Blobs, t api.Tower) (api.Entry, api.Errno) {
	value, errno := trees.Value(b, t)
	if errno != api.OK {
		return api.Entry{}, errno
	}
	return api.Entry{Key: t.Key, Value: value}, api.OK
}

// course is what is still to be gone through: towers, with all that hangs at them, the first one last.
type course []api.Kid

func (c course) first() api.Kid { return c[len(c)-1] }

func (c course) rest() course { return c[:len(c)-1] }

// over is a course with some kids ahead of it. It is cut off at its end, so that whoever else has it keeps what is there.
// The kids' keys fall, as a tower's do; if they are not ahead of the course: ErrTree. So no key comes twice, however towers hang together.
func (c course) over(kids []api.Kid) (course, api.Errno) {
	if len(kids) > 0 && len(c) > 0 && !less(kids[0].Key, c.first().Key) {
		return nil, api.ErrTree
	}
	return append(c[:len(c):len(c)], kids...), api.OK
}

// opened is a course's first tower, and what is still to be gone through behind that tower's own key.
func (c course) opened(b *blobs.Blobs) (api.Tower, course, api.Errno) {
	tower, errno := trees.Kid(b, c.first())
	if errno != api.OK {
		return api.Tower{}, nil, errno
	}
	left, errno := c.rest().over(tower.Kids)
	return tower, left, errno
}

// courseBehind is what is to be gone through behind the way of a key.
func courseBehind(way []api.Tower, key []byte) (course, api.Errno) {
	var c course
	for _, tower := range way {
		var errno api.Errno
		if c, errno = c.over(tower.Kids[:above(tower.Kids, key)]); errno != api.OK {
			return nil, errno
		}
	}
	return c, api.OK
}

// towersIn gives the towers whose keys lie in a span, in the order of keys; an error ends it.
func towersIn(b *blobs.Blobs, t api.Tree, s api.Span) iter.Seq2[api.Tower, api.Errno] {
	return func(yield func(api.Tower, api.Errno) bool) {
		way, errno := wayOf(b, t, s.Lo)
		if errno != api.OK {
			yield(api.Tower{}, errno)
			return
		}
		last := way[len(way)-1]
		if !last.Head && bytes.Equal(last.Key, s.Lo) && !yield(last, api.OK) {
			return
		}
		c, errno := courseBehind(way, s.Lo)
		for errno == api.OK && len(c) > 0 && spans.AheadOfEnd(s, c.first().Key) {
			var tower api.Tower
			if tower, c, errno = c.opened(b); errno == api.OK && !yield(tower, api.OK) {
				return
			}
		}
		if errno != api.OK {
			yield(api.Tower{}, errno)
		}
	}
}

// hasAny tells whether a key lies in a span; none does in one that is not fit.
func hasAny(b *blobs.Blobs, t api.Tree, s api.Span) (bool, api.Errno) {
	if spans.Unfit(s) != api.OK {
		return false, api.OK
	}
	for _, errno := range towersIn(b, t, s) {
		return errno == api.OK, errno
	}
	return false, api.OK
}
