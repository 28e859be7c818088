package vault_test

import (
	"fmt"
	"math/rand/v2"
	"slices"
	"testing"

	"witness/api"
	"witness/disk"
)

// story is a disk, a vault over it and the model, through all calls in any order.
type story struct {
	pair
	d      *disk.Disk
	r      *rand.Rand
	met    map[string]int
	events int // writes and flushes of the last call that wrote
}

func newStory(t *testing.T, seed uint64) *story {
	t.Helper()
	r := noise(seed)
	window := 1 + r.IntN(5)
	d, v := store(t, 8+r.IntN(40), 1024<<r.IntN(3), window)
	return &story{pair{t, asked{v}, newModel(window)}, d, r, map[string]int{}, 0}
}

// key is one of a few, so that sessions meet.
func (s *story) key() string {
	return []string{"", "a", "aa", "b", "c", "d", "e", "\xff", letters("k", 1024), letters("k", 1025)}[s.r.IntN(9+s.r.IntN(20)/19)]
}

func (s *story) value() string {
	if s.r.IntN(3) == 0 {
		return ""
	}
	return letters(fmt.Sprint(s.r.IntN(3)), s.r.IntN(80))
}

// session is an open one mostly.
func (s *story) session() int {
	if s.r.IntN(12) == 0 || len(s.m.sessions) == 0 {
		return s.r.IntN(s.m.begun+3) - 1
	}
	var l []int
	for n := range s.m.sessions {
		l = append(l, n)
	}
	slices.Sort(l)
	return l[s.r.IntN(len(l))]
}

// version is a kept one mostly.
func (s *story) version() uint64 {
	if s.r.IntN(5) == 0 {
		return uint64(s.r.IntN(len(s.m.maps) + 2))
	}
	return uint64(s.m.oldest + s.r.IntN(s.m.newest()-s.m.oldest+1))
}

func (s *story) span() api.Span {
	lo, hi := s.key(), s.key()
	if lo > hi && s.r.IntN(6) > 0 {
		lo, hi = hi, lo
	}
	return api.Span{Lo: []byte(lo), Hi: []byte(hi), Open: s.r.IntN(3) == 0}
}

func (s *story) edits() []api.Edit {
	var l []api.Edit
	for range s.r.IntN(5) {
		l = append(l, api.Edit{Key: []byte(s.key()), Value: []byte(s.value()), Gone: s.r.IntN(3) == 0})
	}
	return l
}

// ask is a call with arguments of all sorts; whether it writes.
func (s *story) ask() (string, func(a answers) string, bool) {
	n, key, version, sp, most := s.session(), s.key(), s.version(), s.span(), s.r.IntN(8)
	switch s.r.IntN(24) {
	case 0, 1, 2:
		return "Begin", answers.Begin, false
	case 3:
		return "BeginAt", func(a answers) string { return a.BeginAt(version) }, false
	case 4, 5, 6:
		value := s.value()
		return "Put", func(a answers) string { return a.Put(n, key, value) }, false
	case 7, 8:
		return "Delete", func(a answers) string { return a.Delete(n, key) }, false
	case 9:
		l := s.edits()
		return "Batch", func(a answers) string { return a.Batch(n, l) }, false
	case 10:
		return "Get", func(a answers) string { return a.Get(n, key) }, false
	case 11:
		return "Range", func(a answers) string { return a.Range(n, sp, most) }, false
	case 12, 13, 14, 15:
		return "Commit", func(a answers) string { return a.Commit(n) }, true
	case 16:
		return "Abort", func(a answers) string { return a.Abort(n) }, false
	case 17:
		return "Sessions", answers.Sessions, false
	case 18:
		return "GetAt", func(a answers) string { return a.GetAt(version, key) }, false
	case 19:
		return "RangeAt", func(a answers) string { return a.RangeAt(version, sp, most) }, false
	case 20:
		return "Each and ProveAt", func(a answers) string { return a.Each(version, sp) + a.ProveAt(version, sp) }, false
	case 21:
		other := s.version()
		return "Diff", func(a answers) string { return a.Diff(version, other) }, false
	case 22:
		return "the annals", func(a answers) string { return a.Head() + a.Included(version) + a.Extends(version) }, false
	}
	window := s.r.IntN(8) + s.r.IntN(9)/8*60
	return "Retain", func(a answers) string { return a.Retain(window) }, true
}

// step asks one thing; a refusal for want of room leaves all as it was.
func (s *story) step() {
	s.t.Helper()
	name, ask, writes := s.ask()
	if s.r.IntN(30) == 0 {
		s.room()
		return
	}
	was := s.m.copied()
	before := s.written()
	want, got := ask(s.m), ask(s.v)
	if n := s.written() - before; n > 0 {
		s.events = n
	}
	if writes && got == refused(api.ErrFull) && want != got {
		s.met["ErrFull"]++
		s.m = was
		s.alike(name + " without room")
		s.room()
		return
	}
	if got != want {
		s.t.Fatalf("16.12: %s: %.600s\nwant %.600s", name, got, want)
	}
	s.met[name]++
	if len(want) > 3 && want[:3] == "key" {
		s.met["conflicts"]++
	}
	if len(want) > 7 && want[:7] == "version" {
		s.met["no versions"]++
	}
}

// written is how many writes and flushes there were.
func (s *story) written() int {
	x := s.d.Stats()
	return int(x.Writes + x.Flushes)
}

// holds is the versions and the window that the disk has.
func (s *story) holds() string {
	return s.v.Versions() + fmt.Sprint(catalogOf(s.t, s.d).Page().Window)
}

func (m *model) holds() string { return m.Versions() + fmt.Sprint(m.window) }

// room makes room; no answer changes by that.
func (s *story) room() {
	s.t.Helper()
	s.met[s.v.Compact()]++
	s.alike("Compact")
}

// reopen ends the vault, by Close or without it, and opens the disk again.
func (s *story) reopen() {
	s.t.Helper()
	if s.r.IntN(2) == 0 {
		s.both("16.11: Close", answers.Close)
		s.alike("Close")
	}
	s.v, s.m = asked{open(s.t, s.d)}, s.m.opened()
	s.alike("Open")
}

// TestStory: all calls in any order, held against plain lists.
func TestStory(t *testing.T) {
	met := make(chan map[string]int, 40)
	t.Run("stories", func(t *testing.T) {
		for seed := range uint64(cap(met)) {
			t.Run(fmt.Sprint(seed), func(t *testing.T) {
				t.Parallel()
				s := newStory(t, seed)
				for i := range 600 {
					s.step()
					if i%60 == 59 {
						s.alike("step")
					}
					if s.r.IntN(150) == 0 {
						s.reopen()
					}
				}
				met <- s.met
			})
		}
	})
	close(met)
	sum := map[string]int{}
	for m := range met {
		for name, n := range m {
			sum[name] += n
		}
	}
	for _, name := range []string{"conflicts", "no versions", "ErrFull", "Begin", "BeginAt", "Put", "Delete", "Batch", "Get", "Range", "Commit", "Abort", "Sessions", "GetAt", "RangeAt", "Each and ProveAt", "Diff", "the annals", "Retain", "1", refused(api.ErrVictim)} {
		if sum[name] < 20 {
			t.Errorf("16.12: the stories came upon %s %d times: %v", name, sum[name], sum)
		}
	}
}

// crash lets the disk crash in any way.
func (s *story) crash() {
	c := api.Crash{Torn: -1}
	odds := s.r.IntN(5)
	for range s.d.Pending() {
		c.Keep = append(c.Keep, s.r.IntN(4) < odds)
	}
	if n := len(c.Keep); n > 0 && s.r.IntN(2) == 0 {
		c.Torn, c.At = []int{n - 1, s.r.IntN(n)}[s.r.IntN(2)], s.r.IntN(sector+1)
	}
	s.d.Crash(c)
}

// brokenStep asks something that writes while the power may go, lets the disk crash, and opens it again.
func (s *story) brokenStep() {
	s.t.Helper()
	name, ask, writes := s.ask()
	for !writes {
		name, ask, writes = s.ask()
	}
	s.d.Fuse([]int{s.r.IntN(30), s.r.IntN(3), max(0, s.events-s.r.IntN(4))}[s.r.IntN(3)])
	was := s.m.copied()
	compacts := s.r.IntN(4) == 0
	want, got := "", ""
	if compacts {
		name, got = "Compact", s.v.Compact()
	} else {
		want, got = ask(s.m), ask(s.v)
	}
	switch {
	case compacts && got != refused(api.ErrPower), got == want:
		s.met["answered"]++
	case got == refused(api.ErrFull) && !compacts:
		s.met["ErrFull"]++
		s.m = was
	case got == refused(api.ErrPower) && s.d.Off():
		s.met["broken off"]++
		is(s.t, "16, 'Words': behind ErrPower", s.v.Head(), refused(api.ErrDead))
		s.crash()
		s.v = asked{open(s.t, s.d)}
		if now := s.holds(); now != s.m.holds() {
			s.met["not there"]++
			s.m = was
		} else if was.holds() != now {
			s.met["there"]++
		}
		s.m = s.m.opened()
		s.alike(name + " that was broken off")
		return
	default:
		s.t.Fatalf("16.15: %s: %s, want %s", name, got, want)
	}
	s.d.Fuse(-1)
	if s.r.IntN(2) == 0 {
		s.crash()
		is(s.t, "16, 'Words': behind a crash", s.v.Head(), refused(api.ErrDead))
		s.v, s.m = asked{open(s.t, s.d)}, s.m.opened()
	}
	s.alike(name)
}

// TestBrokenStory: crashes again and again.
func TestBrokenStory(t *testing.T) {
	met := make(chan map[string]int, 30)
	t.Run("stories", func(t *testing.T) {
		for seed := range uint64(cap(met)) {
			t.Run(fmt.Sprint(seed), func(t *testing.T) {
				t.Parallel()
				s := newStory(t, 1000+seed)
				for range 60 {
					for range s.r.IntN(25) {
						s.step()
					}
					s.brokenStep()
					if s.r.IntN(8) == 0 {
						s.room()
					}
				}
				met <- s.met
			})
		}
	})
	close(met)
	sum := map[string]int{}
	for m := range met {
		for name, n := range m {
			sum[name] += n
		}
	}
	for _, name := range []string{"answered", "broken off", "not there", "there", "ErrFull"} {
		if sum[name] < 10 {
			t.Errorf("16.15: the stories came upon %s %d times: %v", name, sum[name], sum)
		}
	}
}
