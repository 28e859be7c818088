package mirror_test

import (
	"testing"

	"witness/api"
	"witness/blobs"
	"witness/codec"
	"witness/disk"
	"witness/mirror"
	"witness/segment"
	"witness/skip"
)

// laid is a disk laid by hand: a store whose newest version has a given number; two versions are kept, both with a = 1.
func laid(t *testing.T, last uint64) *disk.Disk {
	t.Helper()
	ok := func(e api.Errno) {
		t.Helper()
		if e != api.OK {
			t.Fatal(e)
		}
	}
	d, _ := disk.New(2+20*16, 512)
	log, e := segment.Open(d, 16, 0, make([]api.Mark, 20))
	ok(e)
	b, e := blobs.Open(log)
	ok(e)
	tree, e := skip.Empty(b)
	ok(e)
	tree, e = skip.Put(b, tree, []byte("a"), []byte("1"))
	ok(e)
	leaf := api.Leaf{Version: last, Label: tree.Label}
	addr, e := b.Put(api.KindLeaf, codec.Leaf(leaf))
	ok(e)
	p := api.Page{Last: last, Window: 2, Versions: []api.Version{{Number: last - 1, Tree: tree}, {Number: last, Tree: tree}}}
	p.Annal.Size = last + 1
	for bit := 63; bit >= 0; bit-- {
		if size := uint64(1) << bit; p.Annal.Size&size != 0 {
			p.Annal.Peaks = append(p.Annal.Peaks, api.Peak{Size: size, Limb: api.Limb{Addr: addr, Label: leafLabel(size, leaf)}})
		}
	}
	p.Marks, p.Serial = log.Tail().Marks, log.Tail().Serial
	place, e := log.Append(api.Frame{Kind: api.KindPage, Body: codec.Page(p)})
	ok(e)
	ok(d.Write(1, codec.Super(api.Super{Seq: 1, Size: 512, Sectors: d.Sectors(), Span: 16, Page: place}, 512)))
	ok(d.Flush())
	return d
}

// leafLabel is a label for a peak: of one leaf its own, else any.
func leafLabel(size uint64, l api.Leaf) api.Sum {
	if size == 1 {
		return made{l}.head().Label
	}
	return api.Sum{byte(size % 251)}
}

// TestLastVersions: another side that has come to its last number is followed.
func TestLastVersions(t *testing.T) {
	const last = api.MaxNumber
	v := open(t, laid(t, last))
	x := read(t, mirror.Serve(v, []byte{api.AskHead}))
	if x.Kind != api.SayHead || x.Version != last || x.Count != 1 || x.Head != headOf(t, v) || x.Head.Size != last+1 {
		t.Fatalf("18.1: AskHead: %s", words(x))
	}
	w := some(t, 3)
	m := mirror.New(w, api.Head{})
	is(t, "18.9: a round", round(t, m, v), "head leaf proof nil")
	followed(t, "the last version", m, w, v)
	is(t, "18.10: a round", round(t, m, v), "head leaf nil")
	older := api.Head{Size: last, Label: leafLabel(last, api.Leaf{})} // the first peak alone
	w = some(t, 3)
	m = mirror.New(w, older)
	is(t, "18.9: a round", round(t, m, v), "head extends leaf delta proof nil") // a delta between two versions with one map
	followed(t, "the last version", m, w, v)
	is(t, "18.1: AskLeaf above it", serves(t, v, say(api.Message{Kind: api.AskExtends, Other: last + 1})), words(api.Message{Kind: api.SayExtends}))
}
