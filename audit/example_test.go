package audit_test

import (
	"testing"

	"witness/api"
	"witness/audit"
	"witness/catalog"
)

func holds(t *testing.T, what string, r api.Report, n [6]int, l ...api.Finding) {
	t.Helper()
	if numbers(r) != n {
		t.Errorf("%s: %v, want %v", what, numbers(r), n)
	}
	finds(t, what, r, l...)
}

// TestExamples are those of the chapter.
func TestExamples(t *testing.T) {
	d := newDisk(t, 66, sector)
	holds(t, "example 1", alike(t, "example 1", d), [6]int{}, of(api.ErrMagic, 0))
	must(t, "14.1: Format", catalog.Format(d, 8, 2))
	holds(t, "example 2", alike(t, "example 2", d), [6]int{1, 1, 3, 2, 2, 0})

	d = two(t)
	all := [6]int{2, 2, 15, 12, 11, 3}
	holds(t, "example 3", alike(t, "example 3", d), all)
	if s := open(t, d).Super(); s.Page.Seg != 1 || s.Page.At != 433 || s.Seq%2 != 1 {
		t.Errorf("example 3: %v", s)
	}
	lost := []api.Finding{of(api.ErrLeaf, 0), of(api.ErrTree, 1), of(api.ErrTree, 2)}
	page := []api.Finding{of(api.ErrPage, 0)}
	for _, x := range []struct {
		what       string
		sector, at int
		numbers    [6]int
		findings   []api.Finding
	}{
		{"a header", 2, 5, all, []api.Finding{at(api.ErrCheck, 0, 0)}},
		{"the first frame", 2, 30, [6]int{2, 2, 6, 5, 5, 0}, append(lost, at(api.ErrCheck, 0, 16))},
		{"a value", 2 + 258/sector, 258 % sector, [6]int{2, 2, 9, 7, 5, 0}, append(lost, at(api.ErrCheck, 0, 248))},
		{"the page", 10 + 500/sector, 500 % sector, [6]int{0: 2}, page},
		{"its segment's header", 10, 3, [6]int{0: 2}, page},
		{"sector 1", 1, 60, [6]int{1, 1, 9, 7, 7, 1}, nil},
		{"sector 0", 0, 60, [6]int{1, 2, 15, 12, 11, 3}, nil},
	} {
		d.Rot(x.sector, x.at, 1)
		holds(t, "example 4: "+x.what, alike(t, "example 4", d), x.numbers, x.findings...)
		d.Rot(x.sector, x.at, 1)
	}
	holds(t, "example 4: turned back", alike(t, "example 4", d), all)
	d.Fuse(0)
	d.Flush()
	if r, e := audit.Run(d, 1); e != api.ErrPower || !sameReport(r, api.Report{}) {
		t.Errorf("example 5: %v, %d", r, e)
	}
}
