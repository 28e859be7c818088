package codec_test

import (
	"bytes"
	"testing"

	"witness/api"
	"witness/codec"
)

func messageKind(kind byte) field {
	bad := []wrong{}
	for _, other := range []byte{0, 6, 7, 10, 16, 17, 18, 20, 128, 255} {
		bad = append(bad, wrong{[]byte{other}, api.ErrKind})
	}
	return byteField("the kind", kind, bad...)
}

func boundField(name string, b []byte) field { return textField(name, b, api.MaxKey+1) }

func openField(b byte) field {
	return byteField("Open", b, wrong{[]byte{2}, api.ErrForm}, wrong{[]byte{255}, api.ErrForm})
}

func sidesField(b byte) field {
	return byteField("a change's sides", b, wrong{[]byte{0}, api.ErrForm}, wrong{[]byte{4}, api.ErrForm}, wrong{[]byte{255}, api.ErrForm})
}

func holdMessage(t *testing.T, m api.Message, fields ...field) {
	t.Helper()
	fields = append([]field{messageKind(byte(m.Kind))}, fields...)
	holdFields(t, "2.7", m, fields, codec.Message, codec.ReadMessage)
	holdTrail(t, "2.7", goods(fields), codec.ReadMessage)
}

func TestAsked(t *testing.T) {
	longest := bytes.Repeat([]byte{'k'}, api.MaxKey+1)
	version := func(n uint64) field { return numberField("Version", n, api.MaxNumber) }
	holdMessage(t, api.Message{Kind: api.AskHead})
	holdMessage(t, api.Message{Kind: api.AskProof, Version: 300, Span: api.Span{Lo: []byte("a"), Hi: longest}},
		version(300), openField(0), boundField("Lo", []byte("a")), boundField("Hi", longest))
	holdMessage(t, api.Message{Kind: api.AskProof, Version: api.MaxNumber, Span: api.Span{Lo: longest, Open: true}},
		version(api.MaxNumber), openField(1), boundField("Lo", longest))
	holdMessage(t, api.Message{Kind: api.AskLeaf, Version: 7}, version(7))
	holdMessage(t, api.Message{Kind: api.AskExtends, Other: api.MaxNumber + 1}, numberField("Other", api.MaxNumber+1, api.MaxNumber+1))
	holdMessage(t, api.Message{Kind: api.AskDelta, Other: 8, Version: 9}, numberField("Other", 8, api.MaxNumber), version(9))
	holdMessage(t, api.Message{Kind: api.AskDelta, Other: api.MaxNumber}, numberField("Other", api.MaxNumber, api.MaxNumber), version(0))
}

func TestSaid(t *testing.T) {
	holdMessage(t, api.Message{Kind: api.SayHead, Version: 4, Label: sumOf(1), Count: api.MaxNumber, Head: api.Head{Size: api.MaxNumber + 1, Label: sumOf(2)}},
		numberField("Version", 4, api.MaxNumber), fixedField("Label", sumBytes(1)), numberField("Count", api.MaxNumber, api.MaxNumber),
		numberField("Head.Size", api.MaxNumber+1, api.MaxNumber+1), fixedField("Head.Label", sumBytes(2)))
	holdMessage(t, api.Message{Kind: api.SayProof, Body: []byte{0, 3}}, textField("Body", []byte{0, 3}, api.MaxProof))
	holdMessage(t, api.Message{Kind: api.SayProof}, textField("Body", nil, api.MaxProof))
	for _, kind := range []int{api.SayLeaf, api.SayExtends} {
		holdMessage(t, api.Message{Kind: kind, Path: []api.Sum{sumOf(1), sumOf(2)}},
			numberField("the number of sums", 2, 128), fixedField("a sum", sumBytes(1)), fixedField("a sum", sumBytes(2)))
		holdMessage(t, api.Message{Kind: kind}, numberField("the number of sums", 0, 128))
	}
	for _, code := range []api.Errno{0, 5, 128, 999} {
		holdMessage(t, api.Message{Kind: api.SayNo, Code: code}, numberField("Code", uint64(code), 999))
	}
}

func TestChanges(t *testing.T) {
	longest := bytes.Repeat([]byte{'k'}, api.MaxKey)
	value := bytes.Repeat([]byte{'v'}, api.MaxValue)
	holdMessage(t, api.Message{Kind: api.SayDelta}, numberField("how many", 0, api.MaxProof))
	holdMessage(t, api.Message{Kind: api.SayDelta, Changes: []api.Change{
		{Key: longest, Had: true, Old: value}, {Key: nil, Has: true, New: []byte("n")}, {Key: []byte("b"), Had: true, Old: []byte("o"), Has: true, New: value},
	}},
		numberField("how many", 3, api.MaxProof),
		sidesField(1), textField("a key", longest, api.MaxKey), textField("Old", value, api.MaxValue),
		sidesField(2), textField("a key", nil, api.MaxKey), textField("New", []byte("n"), api.MaxValue),
		sidesField(3), textField("a key", []byte("b"), api.MaxKey), textField("Old", []byte("o"), api.MaxValue), textField("New", value, api.MaxValue))
	odd := api.Change{Key: []byte("k"), Old: []byte("o"), New: []byte("n")}
	if b := codec.Message(api.Message{Kind: api.SayDelta, Changes: []api.Change{odd}}); !bytes.Equal(b, []byte{15, 1, 0, 1, 'k'}) {
		t.Errorf("2.7: a change without sides is written as %x", b)
	}
	odd.Had = true
	if b := codec.Message(api.Message{Kind: api.SayDelta, Changes: []api.Change{odd}}); !bytes.Equal(b, []byte{15, 1, 1, 1, 'k', 1, 'o'}) {
		t.Errorf("2.7: a change with one side is written as %x", b)
	}
	for _, n := range []uint64{api.MaxProof, api.MaxProof - 1} {
		if _, e := codec.ReadMessage(cat([]byte{15}, number(n), []byte{1, 0, 0})); e != api.ErrShort {
			t.Errorf("2.7: %d changes of which one is there: %d", n, e)
		}
	}
}

func TestFieldsOfOtherKinds(t *testing.T) {
	whole := api.Message{
		Version: 1, Other: 2, Span: api.Span{Lo: []byte("l"), Hi: []byte("h"), Open: true}, Head: api.Head{Size: 3, Label: sumOf(4)}, Label: sumOf(5), Count: 6, Code: 7,
		Body: []byte("b"), Path: []api.Sum{sumOf(8)}, Changes: []api.Change{{Key: []byte("c"), Has: true, New: []byte("n")}},
	}
	for kind, want := range map[int][]byte{
		api.AskHead:    {1},
		api.AskProof:   {2, 1, 1, 1, 'l'},
		api.AskLeaf:    {3, 1},
		api.AskExtends: {4, 2},
		api.AskDelta:   {5, 2, 1},
		api.SayHead:    cat([]byte{11, 1}, sumBytes(5), []byte{6, 3}, sumBytes(4)),
		api.SayProof:   {12, 1, 'b'},
		api.SayLeaf:    cat([]byte{13, 1}, sumBytes(8)),
		api.SayExtends: cat([]byte{14, 1}, sumBytes(8)),
		api.SayDelta:   {15, 1, 2, 1, 'c', 1, 'n'},
		api.SayNo:      {19, 7},
		0:              {0}, 6: {6}, 10: {10}, 16: {16}, 18: {18}, 20: {20}, 255: {255}, 256: {0}, 257: {1}, 275: {19}, -1: {255}, -254: {2},
	} {
		m := whole
		m.Kind = kind
		if b := codec.Message(m); !bytes.Equal(b, want) {
			t.Errorf("2.7: a message of the kind %d is written as %x, want %x", kind, b, want)
		}
	}
	if b := codec.Message(api.Message{Kind: api.SayNo, Code: -1}); !bytes.Equal(b, cat([]byte{19}, number(1<<64-1))) {
		t.Errorf("2.7: the code -1 is written as %x", b)
	}
}

func TestMostSums(t *testing.T) {
	m := api.Message{Kind: api.SayLeaf, Path: make([]api.Sum, 128)}
	if x, e := codec.ReadMessage(codec.Message(m)); e != api.OK || !alike(x, m) {
		t.Errorf("2.7: 128 sums: %d", e)
	}
	m.Path = make([]api.Sum, 129)
	if _, e := codec.ReadMessage(codec.Message(m)); e != api.ErrLong {
		t.Errorf("2.7: 129 sums: %d", e)
	}
}

func TestLongestBody(t *testing.T) {
	m := api.Message{Kind: api.SayProof, Body: make([]byte, api.MaxProof)}
	if x, e := codec.ReadMessage(codec.Message(m)); e != api.OK || !alike(x, m) {
		t.Errorf("2.7: a body of %d bytes: %d", len(m.Body), e)
	}
	m.Body = make([]byte, api.MaxProof+1)
	if _, e := codec.ReadMessage(codec.Message(m)); e != api.ErrLong {
		t.Errorf("2.7: a body of a byte more: %d", e)
	}
}

// deltaOf is a message of such a length: great values first, and a last change that fills it up to the byte.
func deltaOf(length int) api.Message {
	m := api.Message{Kind: api.SayDelta}
	for range 100 {
		m.Changes = append(m.Changes, api.Change{Has: true, New: make([]byte, api.MaxValue)})
	}
	for len(codec.Message(m)) > length-2*api.MaxValue {
		m.Changes = m.Changes[1:]
	}
	for len(codec.Message(m)) < length-2*api.MaxValue {
		m.Changes = append(m.Changes, api.Change{Has: true, New: make([]byte, 20000)})
	}
	m.Changes = append(m.Changes, api.Change{Has: true, New: make([]byte, 20000), Had: true, Old: make([]byte, 20000)})
	last := &m.Changes[len(m.Changes)-1]
	last.New = make([]byte, 20000+(length-len(codec.Message(m)))/2)
	last.Old = make([]byte, 20000+length-len(codec.Message(m)))
	return m
}

func TestLongestMessage(t *testing.T) {
	m := deltaOf(api.MaxMessage)
	b := codec.Message(m)
	if len(b) != api.MaxMessage {
		t.Fatalf("the test's message has %d bytes", len(b))
	}
	if x, e := codec.ReadMessage(b); e != api.OK || len(x.Changes) != len(m.Changes) || !bytes.Equal(codec.Message(x), b) {
		t.Errorf("2.7: a message of %d bytes: %d", len(b), e)
	}
	for _, kind := range []byte{0, api.AskHead, api.SayDelta} {
		b = append(b[:0], bytes.Repeat([]byte{kind}, api.MaxMessage+1)...)
		if _, e := codec.ReadMessage(b); e != api.ErrLong {
			t.Errorf("2.7: ErrLong comes first of all, kind %d: %d", kind, e)
		}
	}
}
