package node

import (
	"bytes"

	"witness/api"
	"witness/blobs"
	"witness/codec"
)

const maxCount = api.MaxNumber // of what hangs at a tower

// Valid tells whether a tower can stand somewhere.
func Valid(t api.Tower) api.Errno {
	switch {
	case !ownFits(t):
		return api.ErrTower
	case !kidsFit(t):
		return api.ErrKids
	}
	return api.OK
}

func ownFits(t api.Tower) bool {
	if t.Head {
		return len(t.Key) == 0 && t.Value == api.Addr{}
	}
	return len(t.Key) <= api.MaxKey
}

func kidsFit(t api.Tower) bool {
	if len(t.Kids) > api.MaxHeight {
		return false
	}
	levels := heightOf(t)
	count := ownCount(t)
	for i, k := range t.Kids {
		if k.Level >= levels || !kidFits(t, k) || i > 0 && !less(k.Key, t.Kids[i-1].Key) {
			return false
		}
		levels = k.Level
		count += k.Count // a true number: neither of the two is above 2^62
		if count > maxCount {
			return false
		}
	}
	return true
}

// kidFits tells whether a kid can hang at a tower, whichever others do.
func kidFits(t api.Tower, k api.Kid) bool {
	if k.Level < 0 || k.Count == 0 || k.Count > maxCount || len(k.Key) > api.MaxKey {
		return false
	}
	return Height(k.Key) == k.Level+1 && (t.Head || less(t.Key, k.Key))
}

// heightOf is how many levels a tower has.
func heightOf(t api.Tower) int {
	if t.Head {
		return api.MaxHeight
	}
	return Height(t.Key)
}

func less(a, b []byte) bool { return bytes.Compare(a, b) < 0 }

// Save is a tower's address.
func Save(b *blobs.Blobs, t api.Tower) (api.Addr, api.Errno) {
	if errno := Valid(t); errno != api.OK {
		return api.Addr{}, errno
	}
	if isNone(b) {
		return api.Addr{}, api.ErrFull
	}
	return b.Put(api.KindTower, codec.Tower(t))
}

// Load is the tower of an address.
func Load(b *blobs.Blobs, a api.Addr) (api.Tower, api.Errno) {
	if isNone(b) {
		return api.Tower{}, api.ErrNone
	}
	body, errno := b.Get(api.KindTower, a)
	if errno != api.OK {
		return api.Tower{}, errno
	}
	t, errno := codec.ReadTower(body)
	if errno != api.OK || Valid(t) != api.OK {
		return api.Tower{}, api.ErrTower
	}
	return t, api.OK
}

// isNone tells whether there are no blobs at all: nothing is found there, and there is no room.
func isNone(b *blobs.Blobs) bool { return b == nil || b.Log() == nil }
