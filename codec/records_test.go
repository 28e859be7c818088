package codec_test

import (
	"bytes"
	"testing"

	"witness/api"
	"witness/codec"
)

func kidFields(level byte, key []byte, count uint64, b byte) []field {
	return []field{
		levelField("a kid's level", level),
		textField("a kid's key", key, api.MaxKey),
		numberField("a kid's count", count, api.MaxNumber),
		fixedField("a kid's address", addrBytes(b)),
		fixedField("a kid's label", sumBytes(b+1)),
	}
}

func kidOf(level int, key []byte, count uint64, b byte) api.Kid {
	return api.Kid{Level: level, Key: key, Count: count, Addr: addrOf(b), Label: sumOf(b + 1)}
}

func firstByte(b byte) field {
	return byteField("the first byte", b, wrong{[]byte{2}, api.ErrForm}, wrong{[]byte{255}, api.ErrForm})
}

func TestTower(t *testing.T) {
	longest := bytes.Repeat([]byte{'k'}, api.MaxKey)
	tower := api.Tower{Key: []byte("key"), Value: addrOf(3), Kids: []api.Kid{kidOf(23, longest, api.MaxNumber, 5), kidOf(0, nil, 1, 8)}}
	fields := []field{firstByte(0), textField("the key", tower.Key, api.MaxKey), fixedField("the value", addrBytes(3)), numberField("the number of kids", 2, api.MaxHeight)}
	fields = append(fields, kidFields(23, longest, api.MaxNumber, 5)...)
	fields = append(fields, kidFields(0, nil, 1, 8)...)
	holdFields(t, "2.4, 2.6", tower, fields, codec.Tower, codec.ReadTower)
	holdTrail(t, "2.5", goods(fields), codec.ReadTower)

	plain := api.Tower{Key: longest, Value: addrOf(3)}
	fields = []field{firstByte(0), textField("the key", longest, api.MaxKey), fixedField("the value", addrBytes(3)), numberField("the number of kids", 0, api.MaxHeight)}
	holdFields(t, "2.4, 2.6", plain, fields, codec.Tower, codec.ReadTower)
	holdTrail(t, "2.5", goods(fields), codec.ReadTower)
}

func TestHead(t *testing.T) {
	head := api.Tower{Head: true, Kids: []api.Kid{kidOf(4, []byte("a"), 77, 6)}}
	fields := append([]field{firstByte(1), numberField("the number of kids", 1, api.MaxHeight)}, kidFields(4, []byte("a"), 77, 6)...)
	holdFields(t, "2.4, 2.6", head, fields, codec.Tower, codec.ReadTower)
	holdTrail(t, "2.5", goods(fields), codec.ReadTower)
	for _, h := range []api.Tower{{Head: true}, {Head: true, Key: []byte("x")}, {Head: true, Value: addrOf(7)}} {
		if b := codec.Tower(h); !bytes.Equal(b, []byte{1, 0}) {
			t.Errorf("2.4: the head is written as %x", b)
		}
	}
	if h, e := codec.ReadTower([]byte{1, 0}); e != api.OK || !alike(h, api.Tower{Head: true}) {
		t.Errorf("2.5: the head is read as %v, %d", h, e)
	}
}

func TestMostKids(t *testing.T) {
	tower := api.Tower{Head: true}
	for level := api.MaxHeight - 1; level >= 0; level-- {
		tower.Kids = append(tower.Kids, kidOf(level, []byte{byte(level)}, uint64(level), byte(level)))
	}
	b := codec.Tower(tower)
	if x, e := codec.ReadTower(b); e != api.OK || !alike(x, tower) {
		t.Errorf("2.6: 24 kids: %v, %d", x, e)
	}
	tower.Kids = append(tower.Kids, kidOf(0, nil, 0, 0))
	b = codec.Tower(tower)
	if b[1] != 25 {
		t.Errorf("2.4: 25 kids are written as %d", b[1])
	}
	if _, e := codec.ReadTower(b); e != api.ErrLong {
		t.Errorf("2.6: 25 kids: %d", e)
	}
}

// Writing is told of what makes no sense, too.
func TestSenselessTower(t *testing.T) {
	far := bytes.Repeat([]byte{1}, api.MaxKey+1)
	tower := api.Tower{Key: far, Kids: []api.Kid{{Level: -1, Key: far, Count: 1<<64 - 1}, {Level: 256 + 7}}}
	want := cat([]byte{0}, text(far), make([]byte, 33), []byte{2},
		[]byte{255}, text(far), number(1<<64-1), make([]byte, 65),
		[]byte{7, 0, 0}, make([]byte, 65))
	if b := codec.Tower(tower); !bytes.Equal(b, want) {
		t.Errorf("2.4: %x, want %x", b, want)
	}
}

func TestLeaf(t *testing.T) {
	for _, n := range []uint64{0, 5, 127, 128, api.MaxNumber - 1, api.MaxNumber} {
		leaf := api.Leaf{Version: n, Label: sumOf(0xaa)}
		fields := []field{numberField("the version", n, api.MaxNumber), fixedField("the label", sumBytes(0xaa))}
		holdFields(t, "2.4, 2.6", leaf, fields, codec.Leaf, codec.ReadLeaf)
		holdTrail(t, "2.5", goods(fields), codec.ReadLeaf)
	}
	if b := codec.Leaf(api.Leaf{Version: 1<<64 - 1}); !bytes.Equal(b, cat(number(1<<64-1), make([]byte, 32))) {
		t.Errorf("2.4: a leaf above its bound is written as %x", b)
	}
}

func TestFork(t *testing.T) {
	fork := api.Fork{Left: api.Limb{Addr: addrOf(1), Label: sumOf(2)}, Right: api.Limb{Addr: addrOf(3), Label: sumOf(4)}}
	fields := []field{fixedField("left's address", addrBytes(1)), fixedField("left's label", sumBytes(2)), fixedField("right's address", addrBytes(3)), fixedField("right's label", sumBytes(4))}
	holdFields(t, "2.4, 2.6", fork, fields, codec.Fork, codec.ReadFork)
	holdTrail(t, "2.5", goods(fields), codec.ReadFork)
	if b := codec.Fork(api.Fork{}); !bytes.Equal(b, make([]byte, 130)) {
		t.Errorf("2.4: the fork of zeros is %x", b)
	}
}

func TestPage(t *testing.T) {
	page := api.Page{
		Last: 3, Window: 64, Serial: api.MaxNumber,
		Marks:    []api.Mark{{Serial: 9, Used: 4194304}, {}},
		Versions: []api.Version{{Number: 2, Tree: api.Tree{Addr: addrOf(1), Count: api.MaxNumber, Label: sumOf(2)}}, {Number: 3, Tree: api.Tree{Addr: addrOf(3), Label: sumOf(4)}}},
		Annal:    api.Annal{Size: api.MaxNumber + 1, Peaks: []api.Peak{{Size: api.MaxNumber, Limb: api.Limb{Addr: addrOf(5), Label: sumOf(6)}}}},
	}
	fields := []field{
		numberField("last", 3, api.MaxNumber), numberField("window", 64, api.MaxWindow), numberField("serial", api.MaxNumber, api.MaxNumber),
		numberField("the number of marks", 2, api.MaxSectors/2),
		numberField("a mark's serial", 9, api.MaxNumber), numberField("used", 4194304, 4194304),
		numberField("a mark's serial", 0, api.MaxNumber), numberField("used", 0, 4194304),
		numberField("the number of versions", 2, api.MaxWindow),
		numberField("a version's number", 2, api.MaxNumber), fixedField("its address", addrBytes(1)), numberField("its count", api.MaxNumber, api.MaxNumber), fixedField("its label", sumBytes(2)),
		numberField("a version's number", 3, api.MaxNumber), fixedField("its address", addrBytes(3)), numberField("its count", 0, api.MaxNumber), fixedField("its label", sumBytes(4)),
		numberField("the annals' size", api.MaxNumber+1, api.MaxNumber+1), numberField("the number of peaks", 1, 63),
		numberField("a peak's size", api.MaxNumber, api.MaxNumber), fixedField("its address", addrBytes(5)), fixedField("its label", sumBytes(6)),
	}
	holdFields(t, "2.4, 2.6", page, fields, codec.Page, codec.ReadPage)
	holdTrail(t, "2.5", goods(fields), codec.ReadPage)
	if b := codec.Page(api.Page{}); !bytes.Equal(b, make([]byte, 7)) {
		t.Errorf("2.4: the zero page is %x", b)
	}
	if p, e := codec.ReadPage(make([]byte, 7)); e != api.OK || !alike(p, api.Page{}) {
		t.Errorf("2.5: the zero page is read as %v, %d", p, e)
	}
}

func TestLongestLists(t *testing.T) {
	page := api.Page{Marks: make([]api.Mark, 32768), Versions: make([]api.Version, 64), Annal: api.Annal{Peaks: make([]api.Peak, 63)}}
	for i := range page.Marks {
		page.Marks[i] = api.Mark{Serial: uint64(i), Used: i}
	}
	if p, e := codec.ReadPage(codec.Page(page)); e != api.OK || !alike(p, page) {
		t.Errorf("2.6: the longest lists: %d", e)
	}
	for what, p := range map[string]api.Page{
		"marks":    {Marks: make([]api.Mark, 32769)},
		"versions": {Versions: make([]api.Version, 65)},
		"peaks":    {Annal: api.Annal{Peaks: make([]api.Peak, 64)}},
	} {
		if _, e := codec.ReadPage(codec.Page(p)); e != api.ErrLong {
			t.Errorf("2.6: one of the %s too many: %d", what, e)
		}
	}
}

func TestSenselessPage(t *testing.T) {
	page := api.Page{Window: -1, Marks: []api.Mark{{Used: -2}}}
	want := cat([]byte{0}, number(1<<64-1), []byte{0, 1, 0}, number(1<<64-2), make([]byte, 3))
	if b := codec.Page(page); !bytes.Equal(b, want) {
		t.Errorf("2.4: %x, want %x", b, want)
	}
}

func opKind(kind byte) field {
	return byteField("an op's kind", kind, wrong{[]byte{0}, api.ErrKind}, wrong{[]byte{7}, api.ErrKind}, wrong{[]byte{255}, api.ErrKind})
}

func neighbourFields(kind, level byte, key []byte, count uint64) []field {
	return []field{opKind(kind), levelField("an op's level", level), textField("an op's key", key, api.MaxKey), numberField("an op's count", count, api.MaxNumber)}
}

// withoutShort: where a proof may end it is not short.
func withoutShort(f field) field {
	var bad []wrong
	for _, w := range f.bad {
		if len(w.b) > 0 || w.e != api.ErrShort {
			bad = append(bad, w)
		}
	}
	return field{f.name, f.good, bad}
}

func TestProof(t *testing.T) {
	longest := bytes.Repeat([]byte{'k'}, api.MaxKey)
	value := bytes.Repeat([]byte{'v'}, api.MaxValue)
	proof := api.Proof{Count: api.MaxNumber, Ops: []api.Op{
		{Kind: api.OpIn, Value: value}, {Kind: api.OpIn}, {Kind: api.OpOut, Sum: sumOf(1)}, {Kind: api.OpHead},
		{Kind: api.OpStay, Level: 23, Key: longest, Count: api.MaxNumber, Sum: sumOf(2)},
		{Kind: api.OpRight, Key: []byte("r"), Count: 1, Sum: sumOf(3)},
		{Kind: api.OpBoth, Level: 1, Count: 300},
	}}
	fields := []field{numberField("the count", api.MaxNumber, api.MaxNumber),
		withoutShort(opKind(1)), textField("an op's value", value, api.MaxValue),
		withoutShort(opKind(1)), textField("an op's value", nil, api.MaxValue),
		withoutShort(opKind(2)), fixedField("an op's sum", sumBytes(1)), withoutShort(opKind(3))}
	for _, f := range [][]field{
		append(neighbourFields(4, 23, longest, api.MaxNumber), fixedField("an op's sum", sumBytes(2))),
		append(neighbourFields(5, 0, []byte("r"), 1), fixedField("an op's sum", sumBytes(3))),
		neighbourFields(6, 1, nil, 300),
	} {
		f[0] = withoutShort(f[0])
		fields = append(fields, f...)
	}
	holdFields(t, "2.4, 2.6", proof, fields, codec.Proof, codec.ReadProof)
}

func TestProofExamples(t *testing.T) {
	for _, c := range []struct {
		b    []byte
		want api.Proof
		e    api.Errno
	}{
		{[]byte{0}, api.Proof{}, api.OK},
		{[]byte{0, 3}, api.Proof{Ops: []api.Op{{Kind: api.OpHead}}}, api.OK},
		{[]byte{5, 3, 3}, api.Proof{Count: 5, Ops: []api.Op{{Kind: api.OpHead}, {Kind: api.OpHead}}}, api.OK},
		{[]byte{0, 7}, api.Proof{}, api.ErrKind},
		{[]byte{0, 0}, api.Proof{}, api.ErrKind},
		{[]byte{0, 3, 0}, api.Proof{}, api.ErrKind},
		{nil, api.Proof{}, api.ErrShort},
		{[]byte{0x80, 0, 7}, api.Proof{}, api.ErrForm},
	} {
		if p, e := codec.ReadProof(c.b); e != c.e || !alike(p, c.want) {
			t.Errorf("2.6: a proof %x: %v, %d, want %v, %d", c.b, p, e, c.want, c.e)
		}
	}
}

// opIns is ops of such a length in all.
func opIns(length int) []byte {
	whole := cat([]byte{1}, text(make([]byte, api.MaxValue)))
	b := bytes.Repeat(whole, length/len(whole))
	for len(b) < length {
		b = append(b, api.OpHead)
	}
	return b
}

func TestLongestProof(t *testing.T) {
	b := cat([]byte{0}, opIns(api.MaxProof-1))
	p, e := codec.ReadProof(b)
	if e != api.OK || !bytes.Equal(codec.Proof(p), b) {
		t.Errorf("2.6: a proof of %d bytes: %d", len(b), e)
	}
	if _, e := codec.ReadProof(append(b, api.OpHead)); e != api.ErrLong {
		t.Errorf("2.6: a proof of a byte more: %d", e)
	}
	if _, e := codec.ReadProof(bytes.Repeat([]byte{0x80}, api.MaxProof+1)); e != api.ErrLong {
		t.Errorf("2.6: ErrLong comes first of all: %d", e)
	}
	if b := codec.Proof(api.Proof{Ops: append(p.Ops, api.Op{Kind: api.OpHead})}); len(b) != api.MaxProof+1 {
		t.Errorf("2.4: a proof above its bound is written, too: %d bytes", len(b))
	}
}

func TestOpsOfOtherKinds(t *testing.T) {
	whole := api.Op{Level: 3, Key: []byte("k"), Count: 4, Sum: sumOf(5), Value: []byte("v")}
	for _, kind := range []int{0, 7, 255, 256, 257, 262, -1, -255, 1 << 40} {
		op := whole
		op.Kind = kind
		if b := codec.Proof(api.Proof{Ops: []api.Op{op}}); !bytes.Equal(b, []byte{0, byte(kind)}) {
			t.Errorf("2.6: an op of the kind %d is written as %x", kind, b)
		}
	}
	for kind, want := range map[int][]byte{
		api.OpIn:    {1, 1, 'v'},
		api.OpOut:   cat([]byte{2}, sumBytes(5)),
		api.OpHead:  {3},
		api.OpStay:  cat([]byte{4, 3, 1, 'k', 4}, sumBytes(5)),
		api.OpRight: cat([]byte{5, 3, 1, 'k', 4}, sumBytes(5)),
		api.OpBoth:  {6, 3, 1, 'k', 4},
	} {
		op := whole
		op.Kind = kind
		if b := codec.Proof(api.Proof{Ops: []api.Op{op}}); !bytes.Equal(b, cat([]byte{0}, want)) {
			t.Errorf("2.4: an op of the kind %d is written as %x, want 00%x", kind, b, want)
		}
	}
}
