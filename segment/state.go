package segment

import (
	"slices"

	"witness/api"
)

// Free gives a segment up; it is not given out ahead of Settle.
func (l *Log) Free(seg int) api.Errno {
	if _, ok := l.inUse(seg); !ok || seg == l.state.Current {
		return api.ErrSeg
	}
	l.state.Marks[seg] = api.Mark{}
	l.state.Held[seg] = true
	return api.OK
}

// Settle lets all freed segments be given out.
func (l *Log) Settle() { clear(l.state.Held) }

// Reserve keeps so many free segments back from now on.
func (l *Log) Reserve(n int) { l.reserve = max(n, 0) }

// Tail is what the log has to give out.
func (l *Log) Tail() api.Tail { return copied(l.state) }

// Rewind goes back to a tail.
func (l *Log) Rewind(t api.Tail) api.Errno {
	if !l.fits(t.Serial, t.Marks) || !fitsHeld(t.Held, t.Marks) || t.Current != currentOf(t.Marks) {
		return api.ErrMarks
	}
	l.state = copied(t)
	return api.OK
}

func copied(t api.Tail) api.Tail {
	t.Marks = slices.Clone(t.Marks)
	t.Held = slices.Clone(t.Held)
	return t
}

// fits tells whether a serial and marks are a state that fits the log's disk.
func (l *Log) fits(serial uint64, marks []api.Mark) bool {
	if len(marks) != Count(l.disk.Sectors(), l.span) || serial > api.MaxNumber {
		return false
	}
	var serials []uint64
	for _, mark := range marks {
		if mark == (api.Mark{}) {
			continue
		}
		if mark.Serial < 1 || mark.Serial > serial || mark.Used < headerBytes || mark.Used > l.Size() {
			return false
		}
		serials = append(serials, mark.Serial)
	}
	slices.Sort(serials)
	return len(slices.Compact(serials)) == len(serials)
}

// fitsHeld tells whether there is an entry for each segment, and none in use is held.
func fitsHeld(held []bool, marks []api.Mark) bool {
	if len(held) != len(marks) {
		return false
	}
	for seg, mark := range marks {
		if held[seg] && used(mark) {
			return false
		}
	}
	return true
}

// currentOf is the segment with the greatest serial.
func currentOf(marks []api.Mark) int {
	current, greatest := noSegment, uint64(0)
	for seg, mark := range marks {
		if mark.Serial > greatest {
			current, greatest = seg, mark.Serial
		}
	}
	return current
}
