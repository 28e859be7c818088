package blobs

import "witness/api"

// change is what Undo needs to make all as it was at Begin.
type change struct {
	tail api.Tail            // of the log
	was  map[api.Addr]former // of each address that the change has touched
}

// former is how the index had an address at Begin.
type former struct {
	place api.Place
	there bool
}

// note remembers how the index has an address, if the change touches it for the first time.
func (b *Blobs) note(a api.Addr) {
	if b.change == nil {
		return
	}
	if _, noted := b.change.was[a]; noted {
		return
	}
	place, there := b.index[a]
	b.change.was[a] = former{place, there}
}

// Begin begins a change.
func (b *Blobs) Begin() api.Errno {
	if b.change != nil {
		return api.ErrOpen
	}
	b.change = &change{tail: b.log.Tail(), was: map[api.Addr]former{}}
	return api.OK
}

// End ends the change: all stays.
func (b *Blobs) End() api.Errno {
	if b.change == nil {
		return api.ErrOpen
	}
	b.change = nil
	return api.OK
}

// Undo makes all as it was at Begin.
func (b *Blobs) Undo() api.Errno {
	if b.change == nil {
		return api.ErrOpen
	}
	if errno := b.log.Rewind(b.change.tail); errno != api.OK {
		return errno
	}
	for a, was := range b.change.was {
		if was.there {
			b.index[a] = was.place
		} else {
			delete(b.index, a)
		}
	}
	b.change = nil
	return api.OK
}

// Move writes a blob's frame anew, behind the last one.
func (b *Blobs) Move(a api.Addr) api.Errno {
	old, there := b.index[a]
	if !there {
		return api.ErrNone
	}
	frame, errno := b.read(a, old)
	if errno != api.OK {
		return errno
	}
	place, errno := b.log.Append(frame)
	if errno != api.OK {
		return errno
	}
	b.set(a, place)
	return api.OK
}

// Drop forgets all blobs of a segment and frees it; it tells how many they were.
func (b *Blobs) Drop(seg int) (int, api.Errno) {
	if errno := b.log.Free(seg); errno != api.OK {
		return 0, errno
	}
	return b.forget(func(_ api.Addr, p api.Place) bool { return p.Seg == seg }), api.OK
}

// Keep forgets all blobs but those of a list; it tells how many it forgot.
func (b *Blobs) Keep(l []api.Addr) int {
	kept := make(map[api.Addr]struct{}, len(l))
	for _, a := range l {
		kept[a] = struct{}{}
	}
	return b.forget(func(a api.Addr, _ api.Place) bool {
		_, keep := kept[a]
		return !keep
	})
}
