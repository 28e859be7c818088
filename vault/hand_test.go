package vault_test

import (
	"testing"

	"witness/api"
	"witness/blobs"
	"witness/codec"
	"witness/disk"
	"witness/segment"
	"witness/skip"
)

// laid is a disk laid by hand: a store whose newest version, and whose superblock, have given numbers; two versions are kept, both with a = 1.
func laid(t *testing.T, last, seq uint64) *disk.Disk {
	t.Helper()
	d, _ := disk.New(2+12*8, sector)
	log, e := segment.Open(d, 8, 0, make([]api.Mark, 12))
	ok(t, e)
	b, e := blobs.Open(log)
	ok(t, e)
	tree, e := skip.Empty(b)
	ok(t, e)
	tree, e = skip.Put(b, tree, []byte("a"), []byte("1"))
	ok(t, e)
	leaf := api.Leaf{Version: last, Label: tree.Label}
	addr, e := b.Put(api.KindLeaf, codec.Leaf(leaf))
	ok(t, e)
	p := api.Page{Last: last, Window: 2, Versions: []api.Version{{Number: last - 1, Tree: tree}, {Number: last, Tree: tree}}}
	p.Annal.Size = last + 1
	for bit := 63; bit >= 0; bit-- {
		if size := uint64(1) << bit; p.Annal.Size&size != 0 {
			p.Annal.Peaks = append(p.Annal.Peaks, api.Peak{Size: size, Limb: api.Limb{Addr: addr, Label: api.Sum{byte(bit)}}})
		}
	}
	p.Marks, p.Serial = log.Tail().Marks, log.Tail().Serial
	place, e := log.Append(api.Frame{Kind: api.KindPage, Body: codec.Page(p)})
	ok(t, e)
	super := codec.Super(api.Super{Seq: seq, Size: sector, Sectors: d.Sectors(), Span: 8, Page: place}, sector)
	ok(t, d.Write(int(seq%2), super))
	ok(t, d.Flush())
	return d
}

func ok(t *testing.T, e api.Errno) {
	t.Helper()
	if e != api.OK {
		t.Fatal(e)
	}
}

// TestLastVersion: behind the last number there is no other; all else goes on.
func TestLastVersion(t *testing.T) {
	const last = api.MaxNumber
	d := laid(t, last, 1)
	a := asked{open(t, d)}
	x := labelOf(map[string]string{"a": "1"})
	versions := versionWords(last-1, 1, x) + versionWords(last, 1, x)
	is(t, "16.8: Versions", a.Versions(), versions)
	is(t, "16.2: Begin", a.Begin(), "1")
	is(t, "16.2: BeginAt", a.BeginAt(last-1), "2")
	is(t, "16.4: Put", a.Put(1, "b", "2"), "nil")
	for range 2 {
		before := whatHolds(t, d)
		is(t, "16.6: Commit", a.Commit(1), refused(api.ErrLast))
		is(t, "16.6: the store", whatHolds(t, d), before)
		is(t, "16.6: the session", a.Range(1, all, 9), listWords([]string{entryWords("a", "1"), entryWords("b", "2")}, false))
		is(t, "16.7: Sessions", a.Sessions(), "[1 2]")
		is(t, "16.8: Versions", a.Versions(), versions)
	}
	is(t, "16.6: Commit without edits", a.Commit(2), "4611686018427387903")
	is(t, "16.9: Included above the last one", a.Included(last+1), at(uint64(last+1), api.ErrVersion))
	is(t, "16.9: Extends above the size", a.Extends(last+2), refused(api.ErrLeaf))
	is(t, "16.9: Extends of the size", a.Extends(last+1), pathWords(nil))
	is(t, "16.10: Retain", a.Retain(1), "nil")
	is(t, "16.8: Versions", a.Versions(), versionWords(last, 1, x))
	d = laid(t, last-1, 1)
	a = asked{open(t, d)}
	is(t, "16.2: Begin", a.Begin(), "1")
	is(t, "16.4: Delete", a.Delete(1, "a"), "nil")
	is(t, "16.6: Commit of the last one", a.Commit(1), "4611686018427387904")
	is(t, "16.2: Begin", a.Begin(), "2")
	is(t, "16.4: Delete", a.Delete(2, "a"), "nil")
	is(t, "16.6: Commit", a.Commit(2), refused(api.ErrLast))
}

// TestLastSeq: no commit of any sort behind the last superblock.
func TestLastSeq(t *testing.T) {
	d := laid(t, 5, api.MaxNumber)
	a := asked{open(t, d)}
	is(t, "16.2: Begin", a.Begin(), "1")
	is(t, "16.4: Put", a.Put(1, "b", "2"), "nil")
	before := whatHolds(t, d)
	is(t, "16.6: Commit", a.Commit(1), refused(api.ErrLast))
	is(t, "16.10: Retain", a.Retain(1), refused(api.ErrLast))
	is(t, "16.10: Retain of a window that cannot be", a.Retain(0), refused(api.ErrWindow))
	is(t, "16.6: the store", whatHolds(t, d), before)
	is(t, "16.5: Get", a.Get(1, "b"), `"2" true`)
	is(t, "16.8: GetAt", a.GetAt(4, "a"), `"1" true`)
}
