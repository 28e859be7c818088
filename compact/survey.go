package compact

import (
	"cmp"

	"witness/api"
	"witness/catalog"
	"witness/heaps"
)

// survey is what is live in a catalog, and how much of it lies in which segment.
type survey struct {
	catalog *catalog.Catalog
	live    []api.Addr
	bytes   map[int]int // of the live frames, by segment
}

func newSurvey(c *catalog.Catalog) *survey {
	return &survey{catalog: c, bytes: map[int]int{}}
}

// ask finds out what is live now. Nothing of an earlier asking is left.
func (s *survey) ask() api.Errno {
	s.live = nil
	clear(s.bytes)
	if isNone(s.catalog) {
		return api.ErrNone
	}
	var errno api.Errno
	if s.live, errno = s.catalog.Live(); errno != api.OK {
		return errno
	}
	for _, a := range s.live {
		place := s.place(a)
		s.bytes[place.Seg] += place.Len
	}
	return api.OK
}

// place is where a live blob's frame lies; it is there, as it was read to find out what is live.
func (s *survey) place(a api.Addr) api.Place {
	place, _ := s.catalog.Blobs().Where(a)
	return place
}

// usage is that of each segment of the disk, in their order.
func (s *survey) usage() []api.Usage {
	marks := s.catalog.Blobs().Log().Tail().Marks
	l := make([]api.Usage, len(marks))
	for seg, mark := range marks {
		l[seg] = usageOf(seg, mark.Used, s.bytes[seg])
	}
	return l
}

func usageOf(seg, used, live int) api.Usage {
	u := api.Usage{Seg: seg, Used: used, Live: live}
	if used > 0 {
		u.Fill = float64(live) / float64(used)
	}
	return u
}

// victims are the segments of which at least half is dead, those of which the least share is live first. Nothing can be moved out of the one that is being filled.
func (s *survey) victims() []int {
	current := s.catalog.Blobs().Log().Tail().Current
	emptiest := heaps.New(func(a, b api.Usage) int {
		return cmp.Or(cmp.Compare(a.Fill, b.Fill), cmp.Compare(a.Seg, b.Seg))
	})
	for _, u := range s.usage() {
		if u.Seg != current && u.Used > 0 && 2*u.Live <= u.Used {
			emptiest.Push(u)
		}
	}
	var segs []int
	for u := range emptiest.Drain() {
		segs = append(segs, u.Seg)
	}
	return segs
}
