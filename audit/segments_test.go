package audit_test

import (
	"fmt"
	"slices"
	"testing"

	"witness/api"
)

// plain is a shelf with a clean store of version 0, the empty map, and nothing else.
func plain(t *testing.T) *shelf {
	t.Helper()
	s := &scene{shelf: newShelf(t, sector, sceneSpan, sceneCount)}
	s.page.Versions = []api.Version{{Tree: s.tree("")}}
	s.page.Annal = s.annals(1)
	return s.shelf
}

// filler are values for a segment that nobody needs.
func (s *shelf) filler(n int) []api.Place {
	s.t.Helper()
	var l []api.Place
	for range n {
		s.fillers++
		l = append(l, s.frame(1, []byte(fmt.Sprint("\x00filler ", 100+s.fillers))))
	}
	return l
}

// TestDamagedSegments: each frame of each segment, and the headers, damaged alone: what is ahead of it is read, and nothing of that segment behind it.
func TestDamagedSegments(t *testing.T) {
	s := plain(t)
	var places [][]api.Place
	for _, seg := range []int{5, 2, 9} {
		s.begin(seg)
		places = append(places, s.filler(7))
	}
	s.begin(1)
	d := s.lay()
	whole := alike(t, "17.4", d)
	holds(t, "17.4: four segments", whole, [6]int{1, 5, 2 + 21 + 1, 2 + 21, 2, 0})
	for _, l := range places {
		for i, p := range l {
			for _, byte := range []int{0, 4, 8, 9, p.Len - 5, p.Len - 1} {
				turn(d, sceneSpan, p.Seg, p.At+byte, 32)
				r := alike(t, "a damaged frame", d)
				want := [6]int{1, 5, 2 + 14 + i + 1, 2 + 14 + i, 2, 0}
				holds(t, fmt.Sprintf("17.4: frame %d of segment %d", i, p.Seg), r, want, at(api.ErrCheck, p.Seg, p.At))
				turn(d, sceneSpan, p.Seg, p.At+byte, 32)
			}
		}
		for byte := range 16 {
			turn(d, sceneSpan, l[0].Seg, byte, 32)
			code := api.ErrCheck
			if byte < 4 {
				code = api.ErrForm
			}
			r := alike(t, "a damaged header", d)
			holds(t, "17.4: a header", r, numbers(whole), at(code, l[0].Seg, 0))
			turn(d, sceneSpan, l[0].Seg, byte, 32)
		}
		poke(d, 2+l[0].Seg*sceneSpan, 0, headerBytes(77))
		holds(t, "17.4: another header", alike(t, "another header", d), numbers(whole), at(api.ErrMarks, l[0].Seg, 0))
		poke(d, 2+l[0].Seg*sceneSpan, 0, headerBytes(s.strips[l[0].Seg].serial))
	}
	if r := run(t, d, 3); !sameReport(r, whole) {
		t.Errorf("17.4: %v, want %v", r, whole)
	}
	for _, l := range places {
		turn(d, sceneSpan, l[3].Seg, l[3].At, 1)
	}
	holds(t, "17.4: three segments damaged", alike(t, "three", d), [6]int{1, 5, 2 + 9 + 1, 2 + 9, 2, 0},
		at(api.ErrCheck, 2, places[1][3].At), at(api.ErrCheck, 5, places[0][3].At), at(api.ErrCheck, 9, places[2][3].At))
}

// TestUsedInTheMiddle: a mark that ends within a frame, or within the header of one.
func TestUsedInTheMiddle(t *testing.T) {
	for less := 1; less < 40; less++ {
		s := plain(t)
		s.begin(4)
		l := s.filler(3)
		s.begin(1)
		end := l[2].At + l[2].Len
		s.pages = append(s.pages, func(p *api.Page) { p.Marks[4].Used = end - less })
		r := alike(t, fmt.Sprint(less, " bytes less"), s.lay())
		cut, frames := l[2], 2
		if end-less <= l[1].At+l[1].Len {
			cut, frames = l[1], 1
		}
		if end-less == l[1].At+l[1].Len {
			holds(t, "17.4: a mark behind a frame", r, [6]int{1, 3, 2 + 2 + 1, 2 + 2, 2, 0})
			continue
		}
		holds(t, "17.4: a mark within a frame", r, [6]int{1, 3, 2 + frames + 1, 2 + frames, 2, 0}, at(api.ErrShort, 4, cut.At))
	}
}

// TestEmptyBodies: a frame of a blob's kind without a body has no Nth; one of a page's kind is none of a blob.
func TestEmptyBodies(t *testing.T) {
	for kind := byte(1); kind <= 5; kind++ {
		for ahead := range 3 {
			s := plain(t)
			s.begin(6)
			s.filler(ahead)
			p := s.frame(kind, nil)
			s.filler(2)
			q := s.frame(kind, nil)
			r := alike(t, fmt.Sprint("kind ", kind), s.lay())
			want := [6]int{1, 2, 2 + ahead + 4 + 1, 2 + ahead + 2, 2, 0}
			if kind == 5 {
				holds(t, "17.4: an empty page", r, want)
			} else {
				holds(t, fmt.Sprint("17.4: an empty frame of kind ", kind), r, want, at(api.ErrForm, 6, p.At), at(api.ErrForm, 6, q.At))
			}
		}
	}
}

// TestOtherKinds: a frame of another kind ends what is read of its segment; pages that do not hold any more are frames and no blobs.
func TestOtherKinds(t *testing.T) {
	for _, kind := range []byte{0, 6, 7, 11, 128, 255} {
		s := plain(t)
		s.begin(6)
		s.filler(2)
		p := s.frame(kind, []byte("\x00body"))
		s.filler(2)
		s.begin(7)
		r := alike(t, fmt.Sprint("kind ", kind), s.lay())
		holds(t, fmt.Sprint("17.4: a frame of kind ", kind), r, [6]int{1, 3, 2 + 2 + 1, 2 + 2, 2, 0}, at(api.ErrKind, 6, p.At))
	}
	s := plain(t)
	for _, body := range [][]byte{pageBytes(api.Page{}), []byte("no page"), {0}} {
		s.frame(5, body)
	}
	holds(t, "17.4: older pages", alike(t, "pages", s.lay()), [6]int{1, 1, 6, 2, 2, 0})
}

// TestSmallBlobs: a body that is Nth alone is a blob with an empty body.
func TestSmallBlobs(t *testing.T) {
	s := plain(t)
	for kind := byte(1); kind <= 4; kind++ {
		for _, nth := range []byte{0, 1, 255} {
			s.frame(kind, []byte{nth})
		}
	}
	holds(t, "17.4: empty blobs", alike(t, "empty blobs", s.lay()), [6]int{1, 1, 2 + 12 + 1, 2 + 12, 2, 0})
}

// TestOneAddressTwice: several frames of one blob are one address, in one segment and in several; with another Nth it is another one.
func TestOneAddressTwice(t *testing.T) {
	s := sceneOf(t, 7, nil)
	clean := run(t, s.lay(), 1)
	s = sceneOf(t, 7, nil)
	var texts []string
	for text := range s.put {
		texts = append(texts, text)
	}
	slices.Sort(texts)
	for _, text := range texts[:20] {
		s.twin(text[0], 0, []byte(text[1:]))
	}
	s.begin(10)
	for _, text := range texts[10:30] {
		s.twin(text[0], 0, []byte(text[1:]))
		s.twin(text[0], 0, []byte(text[1:]))
		s.twin(text[0], 3, []byte(text[1:]))
	}
	d := s.lay()
	r := alike(t, "17.4: moved blobs", d)
	finds(t, "17.4: moved blobs", r)
	if r.Frames != clean.Frames+20+60 || r.Blobs != clean.Blobs+20 || r.Live != clean.Live || r.Keys != clean.Keys {
		t.Errorf("17.4: %v, want 80 frames and 20 blobs more than %v", numbers(r), numbers(clean))
	}
	// The first segment is lost: what was moved is there still.
	turn(d, sceneSpan, 0, 16, 1)
	r = alike(t, "17.4: a blob of which one frame is left", d)
	if !slices.Contains(r.Findings, at(api.ErrCheck, 0, 16)) {
		t.Errorf("17.4: %v", r)
	}
}
