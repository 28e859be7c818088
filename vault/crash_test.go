package vault_test

import (
	"fmt"
	"math/rand/v2"
	"slices"
	"testing"

	"witness/api"
	"witness/disk"
	"witness/vault"
)

// crashesOf are crashes of a cache with so many writes: that lose all, keep all, keep the first ones, keep what they like; and such that tear one write besides.
func crashesOf(pending int, r *rand.Rand) []api.Crash {
	kept := func(keep func(i int) bool) api.Crash {
		c := api.Crash{Torn: -1}
		for i := range pending {
			c.Keep = append(c.Keep, keep(i))
		}
		return c
	}
	l := []api.Crash{kept(func(int) bool { return false })}
	if pending == 0 {
		return l
	}
	first := r.IntN(pending)
	l = append(l, kept(func(int) bool { return true }), kept(func(i int) bool { return i < first }), kept(func(i int) bool { return i >= first }), kept(func(i int) bool { return i == first }))
	for odds := range 2 {
		l = append(l, kept(func(int) bool { return r.IntN(3) <= odds }))
	}
	for _, c := range slices.Clone(l) {
		for _, torn := range []int{pending - 1, r.IntN(pending)} {
			c.Torn, c.At = torn, []int{0, 1, 8, 15, 16, 20, 44, 51, 52, 127, r.IntN(sector)}[r.IntN(11)]
			l = append(l, c)
		}
	}
	return l
}

// broken is a call that writes: what is done ahead of it, and the call.
type broken struct {
	name  string
	disk  func(t *testing.T) *disk.Disk
	ahead func(t *testing.T, v *vault.Vault)
	call  func(v *vault.Vault) error
	tight bool // there may be no room for another commit behind it
}

// shelf is a disk with some versions, of which so many are kept.
func shelf(t *testing.T, segments, window, versions int) *disk.Disk {
	t.Helper()
	d, v := store(t, segments, 1024, window)
	for i := range versions {
		commits(t, v, edit(fmt.Sprint("k", i%4), letters(fmt.Sprint(i), 40)), gone(fmt.Sprint("k", (i+2)%4)))
	}
	return d
}

func allBroken() []broken {
	commit := func(v *vault.Vault) error {
		_, err := v.Commit(1)
		return err
	}
	compact := func(v *vault.Vault) error {
		_, err := v.Compact()
		return err
	}
	edits := func(l ...api.Edit) func(t *testing.T, v *vault.Vault) {
		return func(t *testing.T, v *vault.Vault) { edited(t, v, l...) }
	}
	nothing := func(*testing.T, *vault.Vault) {}
	disks := func(segments, window, versions int) func(t *testing.T) *disk.Disk {
		return func(t *testing.T) *disk.Disk { return shelf(t, segments, window, versions) }
	}
	return []broken{
		{"the first Commit", disks(8, 2, 0), edits(edit("a", "1")), commit, false},
		{"Commit that changes nothing", disks(8, 2, 2), edits(gone("nothing")), commit, false},
		{"Commit of many", disks(16, 2, 3), edits(edit("a", letters("1", 300)), edit("b", letters("2", 500)), gone("k1"), edit("k2", "x")), commit, false},
		{"Commit behind another", disks(16, 3, 2), func(t *testing.T, v *vault.Vault) {
			edited(t, v, edit("own", "1"))
			commits(t, v, edit("other", "2"))
		}, commit, false},
		{"Commit in vain", disks(8, 2, 2), edits(edit("a", letters("1", 900)), edit("b", letters("2", 900)), edit("c", letters("3", 900)), edit("d", letters("4", 900)), edit("e", letters("5", 900)), edit("f", letters("6", 900))), commit, false},
		{"Retain of 1", disks(12, 4, 5), nothing, func(v *vault.Vault) error { return v.Retain(1) }, false},
		{"Retain of 64", disks(12, 2, 4), nothing, func(v *vault.Vault) error { return v.Retain(64) }, false},
		{"Compact", disks(12, 1, 7), nothing, compact, false},
		{"Compact of a full store", filled, nothing, compact, true},
		{"Compact in vain", crowded, nothing, compact, true},
	}
}

// TestBroken: the power goes at each write and each flush of each call that writes, and any crash follows.
func TestBroken(t *testing.T) {
	for _, b := range allBroken() {
		t.Run(b.name, func(t *testing.T) {
			t.Parallel()
			b.holds(t, b.disk(t))
		})
	}
}

// allOf is all that a disk tells that is opened just now.
func allOf(t *testing.T, d *disk.Disk) string {
	t.Helper()
	v := open(t, d)
	return everything(asked{v}, nil, catalogOf(t, d).Latest().Number)
}

func (b broken) holds(t *testing.T, d *disk.Disk) {
	ready := func() (*disk.Disk, *vault.Vault) {
		x := d.Copy()
		v := open(t, x)
		b.ahead(t, v)
		return x, v
	}
	x, v := ready()
	before := allOf(t, x)
	end := told(b.call(v))
	after := allOf(t, x)
	if end != "nil" && before != after {
		t.Fatalf("16.6, 16.10: behind %s: %s\nwant %s", end, after, before)
	}
	met := map[string]int{}
	for fuse := 0; ; fuse++ {
		x, v := ready()
		sessions := fmt.Sprint(v.Sessions())
		x.Fuse(fuse)
		got := told(b.call(v))
		what := fmt.Sprintf("%s, fuse %d", b.name, fuse)
		if got != refused(api.ErrPower) {
			is(t, "16.15: "+what, got, end)
		} else {
			is(t, "16, 'Words': behind "+what, asked{v}.Versions(), refused(api.ErrDead))
			is(t, "16.7: Sessions behind "+what, fmt.Sprint(v.Sessions()), sessions)
		}
		for _, crash := range crashesOf(len(x.Pending()), noise(uint64(fuse))) {
			y := x.Copy()
			y.Crash(crash)
			switch now := allOf(t, y); {
			case now == before && (got != "nil" || before == after):
				met["before"]++
			case now == after && len(x.Pending()) < 2:
				met["after"]++
			default:
				t.Fatalf("16.15: %s, %v: %s\nwant %s\nor %s", what, crash, now, before, after)
			}
			b.goesOn(t, what, y)
		}
		if got != refused(api.ErrPower) {
			break
		}
		met["refused"]++
	}
	if met["refused"] < 4 || met["before"] < 10 || before != after && met["after"] < 5 {
		t.Errorf("16.15: %s: %v", b.name, met)
	}
}

// goesOn holds that a disk behind a crash takes a commit, over what was left lying.
func (b broken) goesOn(t *testing.T, what string, d *disk.Disk) {
	t.Helper()
	v := open(t, d)
	n, err := v.Commit(edited(t, v, edit("z", "26")))
	if told(err) == refused(api.ErrFull) && b.tight {
		return
	}
	must(t, "16.15: Commit behind "+what, err)
	is(t, "16.15: GetAt behind "+what, asked{open(t, d)}.GetAt(n, "z"), `"26" true`)
}
