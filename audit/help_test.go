package audit_test

import (
	"bytes"
	"crypto/sha256"
	"encoding/binary"
	"fmt"
	"hash/crc32"
	"math/rand/v2"
	"reflect"
	"slices"
	"testing"

	"witness/api"
	"witness/audit"
	"witness/catalog"
	"witness/disk"
	"witness/skip"
)

const (
	sector = 128 // bytes, of most disks here
	last   = uint64(1) << 62
)

func noise(seed uint64) *rand.Rand { return rand.New(rand.NewPCG(seed, 17)) }

func cat(parts ...[]byte) []byte { return bytes.Join(parts, nil) }

func must(t *testing.T, what string, e api.Errno) {
	t.Helper()
	if e != api.OK {
		t.Fatalf("%s: %d", what, e)
	}
}

func newDisk(t *testing.T, sectors, size int) *disk.Disk {
	t.Helper()
	d, e := disk.New(sectors, size)
	must(t, "3.1: New", e)
	return d
}

func open(t *testing.T, d *disk.Disk) *catalog.Catalog {
	t.Helper()
	c, e := catalog.Open(d)
	must(t, "14.2: Open", e)
	return c
}

// add commits the newest tree with a key more.
func add(t *testing.T, c *catalog.Catalog, key, value string) {
	t.Helper()
	must(t, "6.8: Begin", c.Blobs().Begin())
	tree, e := skip.Put(c.Blobs(), c.Latest().Tree, []byte(key), []byte(value))
	must(t, "8.5: Put", e)
	_, e = c.Add(tree)
	must(t, "14.8: Add", e)
}

// stocked is a disk of so many segments of 1024 bytes behind Format and some versions.
func stocked(t *testing.T, segments, window, versions int) *disk.Disk {
	t.Helper()
	d := newDisk(t, 2+8*segments, sector)
	must(t, "14.1: Format", catalog.Format(d, 8, window))
	c := open(t, d)
	for i := range versions {
		add(t, c, string(rune('a'+i)), fmt.Sprint("value ", i))
	}
	return d
}

// two is the disk of the chapter's third example.
func two(t *testing.T) *disk.Disk {
	t.Helper()
	d := newDisk(t, 66, sector)
	must(t, "14.1: Format", catalog.Format(d, 8, 2))
	c := open(t, d)
	add(t, c, "a", string(bytes.Repeat([]byte("0"), 100)))
	add(t, c, "b", string(bytes.Repeat([]byte("1"), 100)))
	return d
}

func run(t *testing.T, d *disk.Disk, workers int) api.Report {
	t.Helper()
	r, e := audit.Run(d, workers)
	must(t, "17.1: Run", e)
	return r
}

// numbers is slots, segments, frames, blobs, live, keys.
func numbers(r api.Report) [6]int {
	return [6]int{r.Slots, r.Segments, r.Frames, r.Blobs, r.Live, int(r.Keys)}
}

func at(code api.Errno, seg, at int) api.Finding {
	return api.Finding{Code: code, Seg: seg, At: at}
}

func of(code api.Errno, version uint64) api.Finding {
	return api.Finding{Code: code, Seg: -1, Version: version}
}

func sameReport(a, b api.Report) bool {
	findings := slices.Equal(a.Findings, b.Findings)
	a.Findings, b.Findings = nil, nil
	return findings && reflect.DeepEqual(a, b)
}

// finds holds a report's findings against a list.
func finds(t *testing.T, what string, r api.Report, l ...api.Finding) {
	t.Helper()
	if !slices.Equal(r.Findings, l) || audit.Clean(r) != (len(l) == 0) {
		t.Errorf("%s: the findings are %v, want %v", what, r.Findings, l)
	}
}

// alike holds the report of a disk, by one worker and by many, against the model's.
func alike(t *testing.T, what string, d *disk.Disk) api.Report {
	t.Helper()
	want := model(d)
	for _, workers := range []int{1, 3, api.MaxWorkers} {
		if r := run(t, d, workers); !sameReport(r, want) {
			t.Fatalf("%s: %d workers: %v, want %v", what, workers, r, want)
		}
	}
	return want
}

// whatDiskHas is all that is on a disk, in its cache, and how often it was written.
func whatDiskHas(d *disk.Disk) string {
	s := d.Stats()
	return fmt.Sprintf("%d writes, %d flushes, pending %v, era %d, off %v, %x", s.Writes, s.Flushes, d.Pending(), d.Era(), d.Off(), sha256.Sum256(d.Image()))
}

// What follows is the document's tables a second time, so that the program is not held against itself.

func word(n int) []byte { return binary.BigEndian.AppendUint32(nil, uint32(n)) }

func long(n uint64) []byte { return binary.BigEndian.AppendUint64(nil, n) }

func number(n uint64) []byte { return binary.AppendUvarint(nil, n) }

func check(parts ...[]byte) []byte {
	return binary.BigEndian.AppendUint32(nil, crc32.Checksum(cat(parts...), crc32.MakeTable(crc32.Castagnoli)))
}

func superBytes(s api.Super, size int) []byte {
	b := cat([]byte("witness1"), long(s.Seq), word(s.Size), word(s.Sectors), word(s.Span), word(s.Page.Seg), word(s.Page.At), word(s.Page.Len))
	b = cat(b, check(b), long(s.Seq))
	return append(b, make([]byte, size-len(b))...)
}

func headerBytes(serial uint64) []byte {
	b := cat([]byte("wseg"), long(serial))
	return cat(b, check(b))
}

func frameBytes(serial uint64, at int, kind byte, body []byte) []byte {
	place := cat(long(serial), word(at), word(len(body)), []byte{kind})
	return cat(word(len(body)), []byte{kind}, check(place), body, check(place, body))
}

func addrBytes(a api.Addr) []byte { return append(a.Sum[:], a.Nth) }

func pageBytes(p api.Page) []byte {
	b := cat(number(p.Last), number(uint64(p.Window)), number(p.Serial), number(uint64(len(p.Marks))))
	for _, m := range p.Marks {
		b = cat(b, number(m.Serial), number(uint64(m.Used)))
	}
	b = cat(b, number(uint64(len(p.Versions))))
	for _, v := range p.Versions {
		b = cat(b, number(v.Number), addrBytes(v.Tree.Addr), number(v.Tree.Count), v.Tree.Label[:])
	}
	b = cat(b, number(p.Annal.Size), number(uint64(len(p.Annal.Peaks))))
	for _, k := range p.Annal.Peaks {
		b = cat(b, number(k.Size), addrBytes(k.Limb.Addr), k.Limb.Label[:])
	}
	return b
}

func limbBytes(l api.Limb) []byte { return cat(addrBytes(l.Addr), l.Label[:]) }

func forkBytes(f api.Fork) []byte { return cat(limbBytes(f.Left), limbBytes(f.Right)) }

func leafBytes(l api.Leaf) []byte { return cat(number(l.Version), l.Label[:]) }

func towerBytes(t api.Tower) []byte {
	text := func(b []byte) []byte { return cat(number(uint64(len(b))), b) }
	b := []byte{1}
	if !t.Head {
		b = cat([]byte{0}, text(t.Key), addrBytes(t.Value))
	}
	b = cat(b, number(uint64(len(t.Kids))))
	for _, k := range t.Kids {
		b = cat(b, []byte{byte(k.Level)}, text(k.Key), number(k.Count), addrBytes(k.Addr), k.Label[:])
	}
	return b
}

// alike2 is the same report by one worker and by many, of a disk of which the model would not come to an end.
func alike2(t *testing.T, what string, d *disk.Disk) api.Report {
	t.Helper()
	r := run(t, d, 1)
	for _, workers := range []int{2, api.MaxWorkers} {
		if x := run(t, d, workers); !sameReport(x, r) {
			t.Fatalf("%s: %d workers: %v, one: %v", what, workers, x, r)
		}
	}
	return r
}
