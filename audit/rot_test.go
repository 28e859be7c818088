package audit_test

import (
	"fmt"
	"slices"
	"testing"

	"witness/api"
	"witness/audit"
	"witness/compact"
	"witness/disk"
)

// rotten are stores whose bytes are turned one by one.
func rotten(t *testing.T) map[string]*disk.Disk {
	t.Helper()
	compacted := stocked(t, 12, 1, 8)
	if n, e := compact.Run(open(t, compacted)); n == 0 || e != api.OK {
		t.Fatalf("15.3: Run = %d, %d", n, e)
	}
	return map[string]*disk.Disk{
		"a fresh store":  stocked(t, 2, 1, 0),
		"the example":    two(t),
		"seven versions": stocked(t, 14, 3, 7),
		"compacted":      compacted,
		"a scene":        sceneOf(t, 7, nil).lay(),
	}
}

// TestRot: each used byte of each segment in use, one at a time.
func TestRot(t *testing.T) {
	t.Parallel()
	for name, d := range rotten(t) {
		c := open(t, d)
		whole := run(t, d, 2)
		if !audit.Clean(whole) {
			t.Fatalf("17.11: %s: %v", name, whole)
		}
		s, tail := c.Super(), c.Blobs().Log().Tail()
		turned := 0
		for seg, mark := range tail.Marks {
			for at := range mark.Used {
				turned++
				mask := []byte{1, 128, 255, byte(1 + at%255)}[(seg+at)%4]
				turn(d, s.Span, seg, at, mask)
				r := run(t, d, 1+at%api.MaxWorkers)
				what := fmt.Sprintf("17.12: %s: byte %d of segment %d", name, at, seg)
				ofPage := seg == s.Page.Seg && (at < 16 || at >= s.Page.At && at < s.Page.At+s.Page.Len)
				switch {
				case audit.Clean(r):
					t.Errorf("%s: the report is clean", what)
				case ofPage:
					holds(t, what, r, [6]int{0: whole.Slots}, of(api.ErrPage, 0))
				case !slices.ContainsFunc(r.Findings, func(f api.Finding) bool { return f.Seg == seg && f.At <= at }):
					t.Errorf("%s: %v", what, r)
				}
				if at%7 == 0 && !sameReport(r, model(d)) {
					t.Errorf("%s: %v, want %v", what, r, model(d))
				}
				turn(d, s.Span, seg, at, mask)
			}
		}
		if r := run(t, d, 2); !sameReport(r, whole) || turned < 200 {
			t.Errorf("17.12: %s: %d bytes turned, %v, want %v", name, turned, r, whole)
		}
	}
}

// TestRotInSlots: each byte of the slot that holds, and of the other one.
func TestRotInSlots(t *testing.T) {
	t.Parallel()
	for name, d := range rotten(t) {
		s := open(t, d).Super()
		whole := run(t, d, 2)
		for slot := range 2 {
			if slot != int(s.Seq%2) && whole.Slots < 2 {
				continue
			}
			for at := range d.Size() {
				for _, mask := range []byte{1, 64, byte(1 + at%255)} {
					d.Rot(slot, at, mask)
					r := run(t, d, 2)
					if r.Slots != whole.Slots-1 || r.Slots == 0 && audit.Clean(r) {
						t.Errorf("17.12: %s: byte %d of slot %d: %v", name, at, slot, r)
					}
					d.Rot(slot, at, mask)
				}
			}
		}
	}
}

// TestRotElsewhere: what is not used is not looked at.
func TestRotElsewhere(t *testing.T) {
	for name, d := range rotten(t) {
		c := open(t, d)
		whole := run(t, d, 2)
		span, tail := c.Super().Span, c.Blobs().Log().Tail()
		for seg, mark := range tail.Marks {
			for at := mark.Used; at < span*d.Size(); at += 1 + at%13 {
				turn(d, span, seg, at, 16)
			}
		}
		if r := run(t, d, 3); !sameReport(r, whole) {
			t.Errorf("17.4: %s: %v, want %v", name, r, whole)
		}
	}
}
