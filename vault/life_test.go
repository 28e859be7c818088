package vault_test

import (
	"fmt"
	"strings"
	"testing"

	"witness/api"
	"witness/catalog"
	"witness/disk"
	"witness/vault"
)

func (a asked) Compact() string { return numberOr(a.v.Compact()) }

// calls are all calls but Sessions and Close, each asked of a session and a version; and each besides with all that can be wrong.
func calls(session int, version uint64) map[string]func(a asked) string {
	long := letters("k", 1026)
	bad := api.Span{Lo: []byte(long), Hi: []byte("a")}
	return map[string]func(a asked) string{
		"Begin":    func(a asked) string { return a.Begin() },
		"BeginAt":  func(a asked) string { return a.BeginAt(version) },
		"Put":      func(a asked) string { return a.Put(session, "p", "q") },
		"Delete":   func(a asked) string { return a.Delete(session, "a") },
		"Batch":    func(a asked) string { return a.Batch(session, []api.Edit{edit("a", "b")}) },
		"Get":      func(a asked) string { return a.Get(session, "a") },
		"Range":    func(a asked) string { return a.Range(session, all, 9) },
		"Commit":   func(a asked) string { return a.Commit(session) },
		"Abort":    func(a asked) string { return a.Abort(session) },
		"Versions": func(a asked) string { return a.Versions() },
		"GetAt":    func(a asked) string { return a.GetAt(version, "a") },
		"RangeAt":  func(a asked) string { return a.RangeAt(version, all, 9) },
		"Each":     func(a asked) string { return a.Each(version, all) },
		"Diff":     func(a asked) string { return a.Diff(version, version) },
		"ProveAt":  func(a asked) string { return a.ProveAt(version, all) },
		"Head":     func(a asked) string { return a.Head() },
		"Included": func(a asked) string { return a.Included(version) },
		"Extends":  func(a asked) string { return a.Extends(version) },
		"Retain":   func(a asked) string { return a.Retain(5) },
		"Compact":  func(a asked) string { return a.Compact() },

		"BeginAt of no version":   func(a asked) string { return a.BeginAt(99) },
		"Put in no session":       func(a asked) string { return a.Put(99, long, long) },
		"Put of a long key":       func(a asked) string { return a.Put(session, long, "") },
		"Delete in no session":    func(a asked) string { return a.Delete(99, long) },
		"Delete of a long key":    func(a asked) string { return a.Delete(session, long) },
		"Batch in no session":     func(a asked) string { return a.Batch(99, []api.Edit{gone(long)}) },
		"Batch of a long key":     func(a asked) string { return a.Batch(session, []api.Edit{gone(long)}) },
		"Batch of nothing":        func(a asked) string { return a.Batch(session, nil) },
		"Get in no session":       func(a asked) string { return a.Get(99, long) },
		"Get of a long key":       func(a asked) string { return a.Get(session, long) },
		"Range in no session":     func(a asked) string { return a.Range(99, bad, 0) },
		"Range that is not fit":   func(a asked) string { return a.Range(session, bad, 0) },
		"Commit of no session":    func(a asked) string { return a.Commit(99) },
		"Abort of no session":     func(a asked) string { return a.Abort(99) },
		"GetAt of no version":     func(a asked) string { return a.GetAt(99, long) },
		"GetAt of a long key":     func(a asked) string { return a.GetAt(version, long) },
		"RangeAt of no version":   func(a asked) string { return a.RangeAt(99, bad, 0) },
		"RangeAt that is not fit": func(a asked) string { return a.RangeAt(version, bad, 0) },
		"Each of no version":      func(a asked) string { return a.Each(99, bad) },
		"Each that is not fit":    func(a asked) string { return a.Each(version, bad) },
		"Diff of no version":      func(a asked) string { return a.Diff(98, 99) },
		"Diff to no version":      func(a asked) string { return a.Diff(version, 99) },
		"ProveAt of no version":   func(a asked) string { return a.ProveAt(99, bad) },
		"ProveAt that is not fit": func(a asked) string { return a.ProveAt(version, bad) },
		"Included of no version":  func(a asked) string { return a.Included(99) },
		"Extends of no size":      func(a asked) string { return a.Extends(99) },
		"Retain of 0":             func(a asked) string { return a.Retain(0) },
		"Retain of 65":            func(a asked) string { return a.Retain(65) },
	}
}

// scene is a disk with versions 0 to 3 of which the last two are kept, and a vault over it with the session 1 on version 2, 2 on version 3; 3 is stale; MaxSessions are open.
func scene(t *testing.T) (*disk.Disk, *vault.Vault) {
	t.Helper()
	d, v := store(t, 12, 1024, 3)
	for i, key := range []string{"a", "b", "c"} {
		commits(t, v, edit(key, fmt.Sprint(i)))
	}
	v = open(t, d)
	a := asked{v}
	is(t, "16.2: BeginAt", a.BeginAt(2), "1")
	is(t, "16.2: Begin", a.Begin(), "2")
	is(t, "16.2: BeginAt", a.BeginAt(1), "3")
	is(t, "16.10: Retain", a.Retain(2), "nil")
	is(t, "16.4: Put", a.Put(1, "x", "y"), "nil")
	for range 13 {
		begun(t, v)
	}
	return d, v
}

const sceneSessions = "[1 2 3 4 5 6 7 8 9 10 11 12 13 14 15 16]"

// ends are what happens to a disk or a vault: behind it each call is refused, and each one that follows with ErrDead.
func ends(t *testing.T) []end {
	other := func(d *disk.Disk, _ *vault.Vault) { commits(t, open(t, d), edit("a", "other")) }
	return []end{
		{"Close", func(_ *disk.Disk, v *vault.Vault) { must(t, "16.11: Close", v.Close()) }, api.ErrDead},
		{"Close and the power gone", func(d *disk.Disk, v *vault.Vault) { must(t, "16.11: Close", v.Close()); off(d) }, api.ErrDead},
		{"the power gone", func(d *disk.Disk, _ *vault.Vault) { off(d) }, api.ErrPower},
		{"a call that answered ErrPower", func(d *disk.Disk, v *vault.Vault) { off(d); v.Versions() }, api.ErrDead},
		{"a call that answered ErrPower, and a crash", func(d *disk.Disk, v *vault.Vault) { off(d); v.Versions(); back(d) }, api.ErrDead},
		{"a Commit that answered ErrPower", func(d *disk.Disk, v *vault.Vault) { d.Fuse(0); v.Commit(1) }, api.ErrDead},
		{"a Commit that answered ErrPower at its end", func(d *disk.Disk, v *vault.Vault) { d.Fuse(7); v.Commit(1) }, api.ErrDead},
		{"a Retain that answered ErrPower", func(d *disk.Disk, v *vault.Vault) { d.Fuse(0); v.Retain(1) }, api.ErrDead},
		{"a Retain that answered ErrPower at its end", func(d *disk.Disk, v *vault.Vault) { d.Fuse(3); v.Retain(1) }, api.ErrDead},
		{"an Each that gave ErrPower", func(d *disk.Disk, v *vault.Vault) {
			for range v.Each(3, all) {
				off(d)
			}
		}, api.ErrDead},
		{"a crash", func(d *disk.Disk, _ *vault.Vault) { back(d) }, api.ErrDead},
		{"the power gone and a crash", func(d *disk.Disk, _ *vault.Vault) { off(d); back(d) }, api.ErrDead},
		{"a crash and the power gone", func(d *disk.Disk, _ *vault.Vault) { back(d); off(d) }, api.ErrPower},
		{"a call behind a crash, and the power gone", func(d *disk.Disk, v *vault.Vault) { back(d); v.Head(); off(d) }, api.ErrDead},
		{"a Format", func(d *disk.Disk, _ *vault.Vault) { must(t, "16.1: Format", vault.Format(d, 8, 3)) }, api.ErrDead},
		{"a Format and the power gone", func(d *disk.Disk, _ *vault.Vault) { vault.Format(d, 8, 3); off(d) }, api.ErrPower},
		{"a Format that is broken off", func(d *disk.Disk, _ *vault.Vault) { d.Fuse(2); vault.Format(d, 8, 3) }, api.ErrPower},
		{"a commit of another vault", other, api.ErrDead},
		{"a Retain of another vault", func(d *disk.Disk, _ *vault.Vault) { must(t, "16.10: Retain", open(t, d).Retain(2)) }, api.ErrDead},
		{"a commit of another vault and the power gone", func(d *disk.Disk, v *vault.Vault) { other(d, v); off(d) }, api.ErrPower},
		{"a commit of a catalog", func(d *disk.Disk, _ *vault.Vault) {
			c, _ := catalog.Open(d)
			must(t, "14.9: Commit", none(c.Commit()))
		}, api.ErrDead},
	}
}

type end struct {
	name string
	do   func(d *disk.Disk, v *vault.Vault)
	want api.Errno // of the first call behind it
}

// TestEnds: every call but Sessions and Close, behind each of the ends, ahead of all errors of its own; and each ends the vault.
func TestEnds(t *testing.T) {
	for _, end := range ends(t) {
		t.Run(end.name, func(t *testing.T) {
			t.Parallel()
			for name, call := range calls(1, 3) {
				d, v := scene(t)
				a := asked{v}
				end.do(d, v)
				sessions := sceneSessions
				if strings.HasPrefix(end.name, "Close") {
					sessions = "[]"
				}
				is(t, "16.7: Sessions behind "+end.name, a.Sessions(), sessions)
				before := whatDiskHas(d)
				is(t, "16, 'Words': "+name+" behind "+end.name, call(a), refused(end.want))
				is(t, "16, 'Words': "+name+" again behind "+end.name, call(a), refused(api.ErrDead))
				is(t, "16, 'Words': Head behind "+name, a.Head(), refused(api.ErrDead))
				is(t, "16, 'Words': the disk behind "+name, whatDiskHas(d), before)
				is(t, "16.7: Sessions behind "+name, a.Sessions(), sessions)
				if sessions != "[]" {
					is(t, "16.11: Close behind "+end.name, a.Close(), "nil")
				}
				is(t, "16.11: Close again", a.Close(), refused(api.ErrDead))
				is(t, "16.7: Sessions behind Close", a.Sessions(), "[]")
				is(t, "16, 'Words': "+name+" behind Close", call(a), refused(api.ErrDead))
			}
		})
	}
}

// TestLivesOn: a vault that was asked nothing meanwhile lives on where the superblock that holds is its own again; one that has answered ErrDead does not.
func TestLivesOn(t *testing.T) {
	for name, call := range calls(1, 3) {
		for _, ask := range []bool{false, true} {
			d, v := scene(t)
			a := asked{v}
			want := call(asked{alike(t)})
			zero, _ := d.Read(0)
			one, _ := d.Read(1)
			d.Write(0, make([]byte, sector))
			d.Write(1, make([]byte, sector))
			if ask {
				is(t, "16, 'Words': "+name+" without a superblock", call(a), refused(api.ErrDead))
				want = refused(api.ErrDead)
			}
			d.Write(0, zero)
			d.Write(1, one)
			is(t, "16, 'Words': "+name+" with the superblock again", call(a), want)
		}
	}
}

// alike is a second vault as scene makes it.
func alike(t *testing.T) *vault.Vault {
	t.Helper()
	_, v := scene(t)
	return v
}

// TestErrorsDoNotEnd: other errors leave a vault living.
func TestErrorsDoNotEnd(t *testing.T) {
	for name, call := range calls(1, 3) {
		_, v := scene(t)
		a := asked{v}
		call(a)
		if got := a.Head(); strings.Contains(got, "error") {
			t.Errorf("16, 'Words': behind %s: Head = %s", name, got)
		}
	}
	_, v := scene(t)
	a := asked{v}
	is(t, "16.3: a session that is stale", a.Get(3, "a"), at(1, api.ErrStale))
	is(t, "16.2: a session too many", a.Begin(), refused(api.ErrSessions))
	is(t, "16.12: what is told behind them", a.GetAt(3, "a"), `"0" true`)
}

// TestReading: what reads changes nothing, and does not count on the fuse.
func TestReading(t *testing.T) {
	d, v := scene(t)
	a := asked{v}
	writes := "Commit Retain Compact"
	last := everything(a, []int{1, 2, 3}, 4)
	d.Fuse(0)
	before := whatDiskHas(d)
	for name, call := range calls(1, 3) {
		if !strings.Contains(writes, strings.Fields(name)[0]) && name != "Abort" {
			call(a)
		}
	}
	is(t, "16, 'Words': the disk behind all that reads", whatDiskHas(d), before)
	is(t, "16.11: Close", a.Close(), "nil")
	is(t, "16.11: Close writes nothing", whatDiskHas(d), before)
	d.Fuse(-1)
	d, v = scene(t)
	a = asked{v}
	is(t, "16, 'Words': the vault behind all that reads", everything(a, []int{1, 2, 3}, 4), last)
	is(t, "16, 'Words': and again", everything(a, []int{1, 2, 3}, 4), last)
	for name, call := range calls(1, 3) { // what answers an error of its own, or reads, changes nothing a vault tells
		if word := strings.Fields(name); !strings.Contains("Commit Retain Compact Put Delete Batch Abort", word[0]) || len(word) > 1 {
			call(a)
		}
	}
	is(t, "16, 'Words': the vault behind all that reads", everything(a, []int{1, 2, 3}, 4), last)
}
