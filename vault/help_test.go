package vault_test

import (
	"crypto/sha256"
	"fmt"
	"math/rand/v2"
	"strings"
	"testing"

	"witness/api"
	"witness/catalog"
	"witness/disk"
	"witness/vault"
)

const sector = 128 // bytes, of most disks here

func noise(seed uint64) *rand.Rand { return rand.New(rand.NewPCG(seed, 16)) }

// told is an error as it is, with what it is around: its type counts.
func told(err error) string {
	switch x := err.(type) {
	case nil:
		return "nil"
	case api.Errno:
		return fmt.Sprint("error ", int(x))
	case *api.VersionError:
		return fmt.Sprint("version ", x.Number, ": ", told(x.Err))
	case *api.KeyError:
		return fmt.Sprintf("key %q: %s", x.Key, told(x.Err))
	}
	return fmt.Sprintf("no error of the document: %T %v", err, err)
}

// refused is told of an Errno.
func refused(e api.Errno) string { return told(e) }

// at is told of a version's error.
func at[N int | uint64](number N, e api.Errno) string {
	return told(&api.VersionError{Number: uint64(number), Err: e})
}

// lost is told of a conflict.
func lost(key string) string {
	return told(&api.KeyError{Key: []byte(key), Err: api.ErrConflict})
}

// text is a key or a value in few words.
func text(s string) string {
	if len(s) <= 40 {
		return fmt.Sprintf("%q", s)
	}
	return fmt.Sprintf("%d bytes %x", len(s), sha256.Sum256([]byte(s)))
}

func is(t *testing.T, what, got, want string) {
	t.Helper()
	if got != want {
		t.Errorf("%s: %.600s\nwant %.600s", what, got, want)
	}
}

func must(t *testing.T, what string, err error) {
	t.Helper()
	if err != nil {
		t.Fatalf("%s: %s", what, told(err))
	}
}

// blank is a disk of so many segments of so many bytes, behind Format.
func blank(t *testing.T, segments, whole, window int) *disk.Disk {
	t.Helper()
	d, e := disk.New(2+segments*whole/sector, sector)
	if e != api.OK {
		t.Fatal(e)
	}
	must(t, "16.1: Format", vault.Format(d, whole/sector, window))
	return d
}

func open(t *testing.T, d *disk.Disk) *vault.Vault {
	t.Helper()
	v, err := vault.Open(d)
	if v == nil || err != nil {
		t.Fatalf("16.1: Open = %v, %s", v != nil, told(err))
	}
	return v
}

// catalogOf is a catalog over a copy of a disk.
func catalogOf(t *testing.T, d *disk.Disk) *catalog.Catalog {
	t.Helper()
	c, e := catalog.Open(d.Copy())
	if e != api.OK {
		t.Fatal(e)
	}
	return c
}

// store is a vault over a new disk.
func store(t *testing.T, segments, whole, window int) (*disk.Disk, *vault.Vault) {
	t.Helper()
	d := blank(t, segments, whole, window)
	return d, open(t, d)
}

func edit(key, value string) api.Edit { return api.Edit{Key: []byte(key), Value: []byte(value)} }

func gone(key string) api.Edit { return api.Edit{Key: []byte(key), Gone: true} }

func from(lo string) api.Span { return api.Span{Lo: []byte(lo), Open: true} }

func span(lo, hi string) api.Span { return api.Span{Lo: []byte(lo), Hi: []byte(hi)} }

var all = api.Span{Open: true}

// begun is a new session on the newest version.
func begun(t *testing.T, v *vault.Vault) int {
	t.Helper()
	n, err := v.Begin()
	must(t, "16.2: Begin", err)
	return n
}

// edited is a new session on the newest version, with edits.
func edited(t *testing.T, v *vault.Vault, l ...api.Edit) int {
	t.Helper()
	n := begun(t, v)
	must(t, "16.4: Batch", v.Batch(n, l))
	return n
}

// commits is a new version by edits.
func commits(t *testing.T, v *vault.Vault, l ...api.Edit) uint64 {
	t.Helper()
	n, err := v.Commit(edited(t, v, l...))
	must(t, "16.6: Commit", err)
	return n
}

// whatDiskHas is all that is on a disk, in its cache, and how often it was written.
func whatDiskHas(d *disk.Disk) string {
	s := d.Stats()
	return fmt.Sprintf("%d writes, %d flushes, pending %v, era %d, off %v, %x", s.Writes, s.Flushes, d.Pending(), d.Era(), d.Off(), sha256.Sum256(d.Image()))
}

// off takes the power away, back gives it back; what was not flushed is lost.
func off(d *disk.Disk) {
	d.Fuse(0)
	d.Flush()
}

func back(d *disk.Disk) { d.Crash(api.Crash{Torn: -1}) }

// letters is a value of so many bytes.
func letters(c string, n int) string { return strings.Repeat(c, n) }

// whatHolds is the superblock that holds, its page, and what is live.
func whatHolds(t *testing.T, d *disk.Disk) string {
	t.Helper()
	c := catalogOf(t, d)
	live, e := c.Live()
	return fmt.Sprint(c.Super(), c.Page(), live, e)
}
