package vault_test

import (
	"fmt"
	"testing"

	"witness/api"
	"witness/catalog"
	"witness/disk"
	"witness/vault"
)

// TestFormat: it is catalog.Format, in what it answers and in what it writes.
func TestFormat(t *testing.T) {
	for _, c := range []struct {
		segments, span, window int
	}{
		{8, 8, 3}, {8, 8, 1}, {8, 8, 64}, {8, 8, 65}, {8, 8, 0}, {8, 8, -1}, {8, 1, 3}, {8, 1, 0}, {8, 1025, 3}, {8, 33, 3}, {8, 33, 0}, {8, -8, 3}, {32, 2, 3}, {1, 8, 3},
	} {
		for _, fuse := range []int{-1, 0, 1, 4, 7, 9} {
			one, e := disk.New(2+c.segments*8, sector)
			if e != api.OK {
				t.Fatal(e)
			}
			one.Fuse(fuse)
			two := one.Copy()
			err, want := vault.Format(one, c.span, c.window), catalog.Format(two, c.span, c.window)
			what := fmt.Sprint("16.1: Format ", c, " with the fuse ", fuse)
			is(t, what, told(err), told(none(want)))
			is(t, what+": the disk", whatDiskHas(one), whatDiskHas(two))
		}
	}
	is(t, "16.1: Format of no disk", told(vault.Format(nil, 8, 3)), refused(api.ErrSize))
}

// TestOpen: what the catalog says, and no vault; nothing is written.
func TestOpen(t *testing.T) {
	zeros, _ := disk.New(66, sector)
	full, v := store(t, 8, 1024, 3)
	commits(t, v, edit("a", "1"))
	commits(t, v, edit("b", "2"))
	dark := full.Copy()
	off(dark)
	page := full.Copy()
	c := catalogOf(t, full)
	place := c.Super().Page
	page.Rot(2+place.Seg*8+place.At/sector, place.At%sector, 1)
	for _, row := range []struct {
		name string
		d    *disk.Disk
		want api.Errno
	}{
		{"no disk", nil, api.ErrMagic}, {"zeros", zeros, api.ErrMagic}, {"a store", full, api.OK}, {"the power gone", dark, api.ErrPower}, {"a page that is spoilt", page, api.ErrPage},
	} {
		before := ""
		if row.d != nil {
			row.d.Fuse(0)
			before = whatDiskHas(row.d)
		}
		v, err := vault.Open(row.d)
		is(t, "16.1: Open of "+row.name, told(err), told(none(row.want)))
		if (v == nil) != (row.want != api.OK) {
			t.Errorf("16.1: Open of %s gives a vault: %v", row.name, v != nil)
		}
		if row.d != nil {
			is(t, "16.1: Open of "+row.name+": the disk", whatDiskHas(row.d), before)
		}
	}
	a := asked{open(t, full)}
	is(t, "16.1: sessions of a vault just opened", a.Sessions(), "[]")
	is(t, "16.2: its first session", a.Begin(), "1")
}

// TestNoVault: what Open has not given is as one that was closed.
func TestNoVault(t *testing.T) {
	for _, v := range []*vault.Vault{nil, {}} {
		a := asked{v}
		for name, call := range calls(1, 0) {
			is(t, "0.1: "+name+" of no vault", call(a), refused(api.ErrDead))
		}
		is(t, "0.1: Sessions of no vault", a.Sessions(), "[]")
		is(t, "0.1: Close of no vault", a.Close(), refused(api.ErrDead))
	}
}
