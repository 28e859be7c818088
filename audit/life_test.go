package audit_test

import (
	"errors"
	"fmt"
	"math/rand/v2"
	"strings"
	"testing"

	"witness/api"
	"witness/audit"
	"witness/catalog"
	"witness/compact"
	"witness/disk"
	"witness/skip"
	"witness/vault"
)

// clean holds that a disk's report is clean, and that what is clean can be opened, with every version whole.
func clean(t *testing.T, what string, d *disk.Disk) {
	t.Helper()
	if d.Off() {
		return
	}
	r := run(t, d, 1+len(what)%api.MaxWorkers)
	if !audit.Clean(r) {
		t.Fatalf("17.11: %s: %v", what, r)
	}
	c, e := catalog.Open(d.Copy())
	must(t, "17.11: "+what+": Open", e)
	for _, v := range c.Page().Versions {
		must(t, "17.11: "+what+": Check", skip.Check(c.Blobs(), v.Tree))
	}
	live, e := c.Live()
	if e != api.OK || len(live) != r.Live {
		t.Fatalf("17.6: %s: %d live, want %d (%d)", what, r.Live, len(live), e)
	}
}

// anyCrash keeps, loses and tears what it likes.
func anyCrash(d *disk.Disk, r *rand.Rand) api.Crash {
	c := api.Crash{Torn: -1}
	odds := r.IntN(5)
	for range d.Pending() {
		c.Keep = append(c.Keep, r.IntN(4) < odds)
	}
	if n := len(c.Keep); n > 0 && r.IntN(2) == 0 {
		c.Torn, c.At = n-1-r.IntN(min(n, 3)), r.IntN(d.Size()+2)
	}
	return c
}

// adds commits the newest tree with an edit.
func adds(c *catalog.Catalog, r *rand.Rand) api.Errno {
	if c.Dead() {
		return api.ErrDead // nobody puts blobs by a catalog that is dead
	}
	b := c.Blobs()
	b.Begin()
	key := []byte(fmt.Sprint(r.IntN(12)))
	tree, e := c.Latest().Tree, api.OK
	if r.IntN(4) == 0 {
		tree, _, e = skip.Delete(b, tree, key)
	} else {
		tree, e = skip.Put(b, tree, key, []byte(strings.Repeat(fmt.Sprint(r.IntN(7)), r.IntN(150))))
	}
	if e != api.OK {
		b.Undo()
		return e
	}
	_, e = c.Add(tree)
	return e
}

// TestCatalogsLife: a clean report behind each of many commits, compactions, power losses and crashes, with several catalogs on one disk.
func TestCatalogsLife(t *testing.T) {
	t.Parallel()
	met := map[string]int{}
	for seed := range uint64(40) {
		r := noise(seed)
		d := newDisk(t, 2+8*9, sector)
		must(t, "14.1: Format", catalog.Format(d, 8, 1+r.IntN(3)))
		clean(t, "Format", d)
		open := func() *catalog.Catalog {
			c, e := catalog.Open(d)
			must(t, "14.2: Open", e)
			return c
		}
		c := []*catalog.Catalog{open(), open()}
		for step := range 50 {
			i := r.IntN(2)
			name, e := "", api.OK
			if r.IntN(4) == 0 {
				d.Fuse(r.IntN(25))
			}
			switch r.IntN(8) {
			case 0:
				name, e = "Keep", c[i].Keep(1+r.IntN(3))
			case 1:
				name, e = "Commit", c[i].Commit()
			case 2, 3:
				_, e = compact.Run(c[i])
				name = "compact"
			case 4:
				name, c[i] = "a crash", nil
				d.Crash(anyCrash(d, r))
				c[i] = open()
			default:
				name, e = "Add", adds(c[i], r)
			}
			met[fmt.Sprint(name, " ", int(e))]++
			clean(t, fmt.Sprintf("seed %d, step %d, %s: %d", seed, step, name, e), d)
			if d.Off() {
				d.Crash(anyCrash(d, r))
				clean(t, fmt.Sprintf("seed %d, step %d, %s and a crash", seed, step, name), d)
			}
			d.Fuse(-1)
			if c[i].Dead() {
				c[i] = open()
			}
		}
	}
	for what, least := range map[string]int{"Add 0": 200, "Add 32": 50, "Add 51": 5, "compact 0": 50, "compact 32": 10, "Keep 0": 50, "Commit 32": 5, "a crash 0": 100} {
		if met[what] < least {
			t.Errorf("17.11: %v", met)
		}
	}
}

// TestVaultsLife: the same of vaults and their sessions.
func TestVaultsLife(t *testing.T) {
	t.Parallel()
	met := map[string]int{}
	for seed := range uint64(40) {
		r := noise(1000 + seed)
		d := newDisk(t, 2+8*24, sector)
		if err := vault.Format(d, 8, 2); err != nil {
			t.Fatal(err)
		}
		open := func() *vault.Vault {
			v, err := vault.Open(d)
			if err != nil {
				t.Fatalf("16.1: Open: %v", err)
			}
			return v
		}
		v := []*vault.Vault{open(), open()}
		for step := range 50 {
			i := r.IntN(2)
			if r.IntN(4) == 0 {
				d.Fuse(r.IntN(30))
			}
			name, err := vaultStep(v[i], r)
			met[fmt.Sprint(name, " ", err)]++
			clean(t, fmt.Sprintf("seed %d, step %d, %s: %v", seed, step, name, err), d)
			if d.Off() || r.IntN(12) == 0 {
				d.Crash(anyCrash(d, r))
				clean(t, fmt.Sprintf("seed %d, step %d, %s and a crash", seed, step, name), d)
			}
			d.Fuse(-1)
			if _, err := v[i].Versions(); err != nil {
				v[i] = open()
			}
		}
	}
	for what, least := range map[string]int{"Commit <nil>": 200, "Commit error 32": 30, "Commit error 51": 5, "Retain <nil>": 30, "Compact <nil>": 40} {
		if met[what] < least {
			t.Errorf("17.11: %v", met)
		}
	}
}

// vaultStep is a call that writes: which, and what is answered.
func vaultStep(v *vault.Vault, r *rand.Rand) (string, error) {
	switch r.IntN(6) {
	case 0:
		return "Retain", v.Retain(1 + r.IntN(3))
	case 1:
		_, err := v.Compact()
		return "Compact", err
	}
	n, err := v.Begin()
	if err != nil {
		return "Begin", err
	}
	for range 1 + r.IntN(4) {
		key := []byte(fmt.Sprint(r.IntN(20)))
		if r.IntN(4) == 0 {
			v.Delete(n, key)
		} else {
			v.Put(n, key, []byte(strings.Repeat("v", r.IntN(200))))
		}
	}
	_, err = v.Commit(n)
	if err != nil && !errors.Is(err, api.ErrPower) {
		v.Abort(n)
	}
	return "Commit", err
}

// TestBroken: the power goes at each write and flush of a call, and crashes follow.
func TestBroken(t *testing.T) {
	t.Parallel()
	for name, call := range map[string]func(c *catalog.Catalog) api.Errno{
		"Add":    func(c *catalog.Catalog) api.Errno { return adds(c, noise(5)) },
		"Commit": (*catalog.Catalog).Commit,
		"Keep":   func(c *catalog.Catalog) api.Errno { return c.Keep(1) },
		"Run": func(c *catalog.Catalog) api.Errno {
			_, e := compact.Run(c)
			return e
		},
	} {
		d := stocked(t, 14, 2, 7)
		for fuse, e := 0, api.ErrPower; e == api.ErrPower; fuse++ {
			x := d.Copy()
			c := open(t, x)
			x.Fuse(fuse)
			e = call(c)
			clean(t, fmt.Sprintf("%s behind the fuse %d: %d", name, fuse, e), x)
			r := noise(uint64(fuse))
			for range 12 {
				y := x.Copy()
				y.Crash(anyCrash(y, r))
				clean(t, fmt.Sprintf("%s, a crash behind the fuse %d", name, fuse), y)
			}
			if e != api.OK && e != api.ErrPower {
				t.Errorf("17.11: %s: %d", name, e)
			}
		}
	}
}

// TestFormatAgain: behind each Format a clean store of version 0.
func TestFormatAgain(t *testing.T) {
	d := stocked(t, 14, 3, 6)
	for i := range 5 {
		must(t, "14.1: Format", catalog.Format(d, 8+i, 1+i))
		holds(t, "17.11: Format", alike(t, "Format", d), [6]int{1, 1, 3, 2, 2, 0})
		clean(t, "Format", d)
		add(t, open(t, d), "a", "1")
		clean(t, "Add", d)
	}
}
