package compact

import (
	"cmp"

	"witness/api"
	"witness/heaps"
)

// frame is where in its segment a live blob lies.
type frame struct {
	addr api.Addr
	at   int
}

// makeRoom frees as many of the victims as there is room to move what is live in them: all, half, half of that; how many these were.
func (s *survey) makeRoom(victims []int) (int, api.Errno) {
	lying := s.lying()
	for n := len(victims); n > 0; n /= 2 {
		switch errno := s.try(victims[:n], lying); errno {
		case api.OK:
			return n, api.OK
		case api.ErrFull: // fewer victims need less room
		default:
			return 0, errno
		}
	}
	return 0, api.ErrFull
}

// lying is the live blobs by segment.
func (s *survey) lying() map[int][]frame {
	by := map[int][]frame{}
	for _, a := range s.live {
		place := s.place(a)
		by[place.Seg] = append(by[place.Seg], frame{a, place.At})
	}
	return by
}

// try frees some victims, all or none of them: the commit is what makes it stay.
func (s *survey) try(victims []int, lying map[int][]frame) api.Errno {
	b := s.catalog.Blobs()
	if errno := b.Begin(); errno != api.OK {
		return errno // the change that has begun is another's, and not to be undone here
	}
	b.Keep(s.live) // else a tower might be found again that has lost its kids
	for _, seg := range victims {
		if errno := s.empty(seg, lying[seg]); errno != api.OK {
			b.Undo()
			return errno
		}
	}
	return s.catalog.Commit()
}

// empty moves what is live out of a segment, in the order in which it lies there, and drops the segment.
func (s *survey) empty(seg int, live []frame) api.Errno {
	b := s.catalog.Blobs()
	for _, f := range heaps.Sort(live, func(a, b frame) int { return cmp.Compare(a.at, b.at) }) {
		if errno := b.Move(f.addr); errno != api.OK {
			return errno
		}
	}
	_, errno := b.Drop(seg)
	return errno
}
