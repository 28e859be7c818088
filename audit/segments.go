package audit

import (
	"cmp"
	"slices"

	"witness/api"
	"witness/blobs"
	"witness/segment"
)

// piece is what one segment has.
type piece struct {
	frames   int
	blobs    []entry // in the order of their frames
	findings []api.Finding
	errno    api.Errno // of the disk
}

// entry is an address and what stands there.
type entry struct {
	addr api.Addr
	blob blob
}

// gather reads all segments in use; the answer is what stands at each address that is there.
func gather(r *api.Report, log *segment.Log, workers int) (index, api.Errno) {
	segs := inUse(log.Tail().Marks)
	pieces := deal(segs, workers, func() func(seg int) piece {
		return func(seg int) piece { return read(log, seg) }
	})
	r.Segments = len(segs)
	there := index{}
	for _, p := range pieces {
		if p.errno != api.OK {
			return nil, p.errno
		}
		r.Frames += p.frames
		r.Findings = append(r.Findings, p.findings...)
		for _, e := range p.blobs {
			there[e.addr] = e.blob // of several frames the last one counts
		}
	}
	return there, api.OK
}

// inUse are the segments in use, in the rising order of their serials.
func inUse(marks []api.Mark) []int {
	var segs []int
	for seg, mark := range marks {
		if mark.Serial != 0 {
			segs = append(segs, seg)
		}
	}
	slices.SortFunc(segs, func(a, b int) int { return cmp.Compare(marks[a].Serial, marks[b].Serial) })
	return segs
}

// read looks at one segment. It is checked last, because the frames end without a word where the power goes.
func read(log *segment.Log, seg int) piece {
	var p piece
	for place, frame := range log.Frames(seg) {
		p.take(place, frame)
	}
	n, errno := log.Check(seg)
	switch errno {
	case api.OK:
	case api.ErrPower:
		p.errno = errno
	default:
		p.findings = append(p.findings, api.Finding{Code: errno, Seg: seg, At: n})
	}
	return p
}

// take counts a frame, and loads the blob in it.
func (p *piece) take(place api.Place, frame api.Frame) {
	p.frames++
	switch {
	case frame.Kind == api.KindPage:
	case len(frame.Body) == 0:
		p.findings = append(p.findings, api.Finding{Code: api.ErrForm, Seg: place.Seg, At: place.At})
	default:
		nth, body := frame.Body[0], frame.Body[1:]
		addr := api.Addr{Sum: blobs.Digest(frame.Kind, body), Nth: nth}
		p.blobs = append(p.blobs, entry{addr, loaded(frame.Kind, body)})
	}
}
