package vault_test

import (
	"errors"
	"fmt"
	"slices"
	"testing"

	"witness/api"
	"witness/vault"
)

// roomy is a text with spare room, in which something stands.
func roomy(s string) []byte { return append([]byte(s), "spare"...)[:len(s)] }

// isRoomy tells whether a text and its spare room are as roomy made them.
func isRoomy(b []byte, s string) bool {
	return string(b) == s && string(b[:len(b)+5]) == s+"spare"
}

// scratch overwrites a text, with its spare room.
func scratch(b []byte) {
	b = b[:cap(b)]
	for i := range b {
		b[i] ^= 0xa5
	}
}

// roomySpan is a span with spare room in its bounds.
func roomySpan(s api.Span) api.Span {
	return api.Span{Lo: roomy(string(s.Lo)), Hi: roomy(string(s.Hi)), Open: s.Open}
}

// TestHandedIn: what is handed in is neither changed nor kept.
func TestHandedIn(t *testing.T) {
	p := newPair(t, 20, 1024, 3)
	v := p.v.v
	p.commits(edit("a", "1"), edit("b", "2"), edit("c", "3"))
	p.both("16.2: Begin", answers.Begin)
	n := p.m.begun
	key, value := roomy("a"), roomy("own")
	must(t, "16.4: Put", v.Put(n, key, value))
	p.m.Put(n, "a", "own")
	gone := roomy("b")
	must(t, "16.4: Delete", v.Delete(n, gone))
	p.m.Delete(n, "b")
	l := []api.Edit{{Key: roomy("d"), Value: roomy("4")}, {Key: roomy("e"), Value: roomy("5")}, {Key: roomy("d"), Value: roomy("6"), Gone: true}, {Key: roomy("spare"), Value: roomy("room")}}
	must(t, "16.4: Batch", v.Batch(n, l[:3]))
	p.m.Batch(n, l[:3])
	if !isRoomy(key, "a") || !isRoomy(value, "own") || !isRoomy(gone, "b") {
		t.Error("0.4: Put or Delete changes what is handed in")
	}
	for i, want := range []string{"d4false", "e5false", "d6true", "spareroomfalse"} {
		e := l[i]
		if fmt.Sprint(string(e.Key), string(e.Value), e.Gone) != want || !isRoomy(e.Key, string(e.Key)) || !isRoomy(e.Value, string(e.Value)) {
			t.Errorf("0.4: Batch changes edit %d that is handed in", i)
		}
		scratch(e.Key)
		scratch(e.Value)
		l[i] = api.Edit{Key: []byte("z"), Value: []byte("z")}
	}
	scratch(key)
	scratch(value)
	scratch(gone)
	p.alike("what was handed in is overwritten")

	s := roomySpan(span("a", "d"))
	each := v.Each(1, s)
	asks := []func(){
		func() { v.Get(n, s.Lo) }, func() { v.GetAt(1, s.Lo) }, func() { v.Range(n, s, 2) }, func() { v.RangeAt(1, s, 2) }, func() { v.ProveAt(1, s) },
		func() {
			for range each {
			}
		},
	}
	for i, ask := range asks {
		if ask(); !isRoomy(s.Lo, "a") || !isRoomy(s.Hi, "d") {
			t.Errorf("0.4: question %d changes what is handed in", i)
		}
	}
	scratch(s.Lo)
	scratch(s.Hi)
	s.Open = true
	got := ""
	for e, err := range each {
		got += fmt.Sprintf("%s=%s %s;", e.Key, e.Value, told(err))
	}
	is(t, "0.4: Each behind its span is overwritten", got, "a=1 nil;b=2 nil;c=3 nil;")
	p.says("16.6: Commit", "2", func(a answers) string { return a.Commit(n) })
	p.alike("behind Commit")
}

// piece is a text or a list of an answer: what it says, and how to overwrite it with its spare room.
type piece struct {
	says  func() string
	smear func()
}

func bytesPiece(b []byte) piece {
	return piece{func() string { return string(b) }, func() { scratch(b) }}
}

// listPiece is a list itself, without what its items lead to.
func listPiece[T any](l []T, says func(x T) string) piece {
	return piece{func() string {
		words := ""
		for _, x := range l {
			words += says(x) + ";"
		}
		return words
	}, func() {
		var zero T
		for i := range l[:cap(l)] {
			l[:cap(l)][i] = zero
		}
	}}
}

func entryPieces(l []api.Entry) []piece {
	var pieces []piece
	for _, e := range l {
		pieces = append(pieces, bytesPiece(e.Key), bytesPiece(e.Value))
	}
	return append(pieces, listPiece(l, func(e api.Entry) string { return fmt.Sprint(len(e.Key), len(e.Value)) }))
}

func sumPieces(l []api.Sum) []piece {
	return []piece{listPiece(l, func(s api.Sum) string { return fmt.Sprintf("%x", s) })}
}

// answerPieces is all memory that a vault hands out, of all calls.
func answerPieces(t *testing.T, v *vault.Vault, session, loser int) []piece {
	t.Helper()
	var pieces []piece
	for _, key := range []string{"a", "b", "own", "e"} {
		value, _, err := v.Get(session, []byte(key))
		must(t, "16.5: Get", err)
		old, _, err := v.GetAt(1, []byte(key))
		must(t, "16.8: GetAt", err)
		pieces = append(pieces, bytesPiece(value), bytesPiece(old))
	}
	for _, s := range []api.Span{all, span("a", "c")} {
		mixed, _, err := v.Range(session, s, 9)
		must(t, "16.5: Range", err)
		old, _, err := v.RangeAt(2, s, 9)
		must(t, "16.8: RangeAt", err)
		var each []api.Entry
		for e, err := range v.Each(2, s) {
			must(t, "16.8: Each", err)
			each = append(each, e)
		}
		proof, err := v.ProveAt(2, s)
		must(t, "16.8: ProveAt", err)
		pieces = append(append(append(append(pieces, entryPieces(mixed)...), entryPieces(old)...), entryPieces(each)...), bytesPiece(proof))
	}
	changes, err := v.Diff(1, 2)
	must(t, "16.8: Diff", err)
	for _, c := range changes {
		pieces = append(pieces, bytesPiece(c.Key), bytesPiece(c.Old), bytesPiece(c.New))
	}
	pieces = append(pieces, listPiece(changes, func(c api.Change) string { return fmt.Sprint(c.Had, c.Has, len(c.Key)) }))
	for n := range uint64(3) {
		in, err := v.Included(n)
		must(t, "16.9: Included", err)
		grown, err := v.Extends(n)
		must(t, "16.9: Extends", err)
		pieces = append(append(pieces, sumPieces(in)...), sumPieces(grown)...)
	}
	versions, err := v.Versions()
	must(t, "16.8: Versions", err)
	_, conflict := v.Commit(loser)
	var lost *api.KeyError
	if !errors.As(conflict, &lost) {
		t.Fatalf("16.6: Commit: %s", told(conflict))
	}
	_, _, none := v.GetAt(9, nil)
	var gone *api.VersionError
	if !errors.As(none, &gone) {
		t.Fatalf("16.8: GetAt: %s", told(none))
	}
	return append(pieces,
		listPiece(versions, func(x api.Version) string { return fmt.Sprint(x) }),
		listPiece(v.Sessions(), func(n int) string { return fmt.Sprint(n) }),
		piece{func() string { return told(conflict) }, func() { scratch(lost.Key); lost.Err = api.ErrLimit }},
		piece{func() string { return told(none) }, func() { *gone = api.VersionError{Number: 77, Err: api.ErrLimit} }})
}

// TestHandedOut: what is handed out is new memory, which shares none with another answer or another list.
func TestHandedOut(t *testing.T) {
	_, v := store(t, 20, 1024, 3)
	commits(t, v, edit("a", "1"), edit("b", letters("2", 30)), edit("c", "3"))
	n := edited(t, v, edit("own", "mine"), edit("b", "edited"), gone("a"))
	loser := edited(t, v, edit("b", "lost"))
	commits(t, v, edit("e", "5"), edit("b", "x"))
	says := func(l []piece) []string {
		var words []string
		for _, p := range l {
			words = append(words, p.says())
		}
		return words
	}
	first := answerPieces(t, v, n, loser)
	want := says(first)
	if len(first) < 60 {
		t.Errorf("0.4: %d pieces", len(first))
	}
	for i := range first {
		l, other := answerPieces(t, v, n, loser), answerPieces(t, v, n, loser)
		l[i].smear()
		for j, word := range says(l) {
			if j != i && word != want[j] {
				t.Errorf("0.4: whoever overwrites piece %d of the answers changes piece %d", i, j)
			}
		}
		if !slices.Equal(says(other), want) {
			t.Errorf("0.4: whoever overwrites piece %d of the answers changes another answer", i)
		}
		if now := says(answerPieces(t, v, n, loser)); !slices.Equal(now, want) {
			t.Fatalf("0.4: whoever overwrites piece %d of the answers changes what is kept", i)
		}
	}
}

// TestTwoVaults: vaults over two disks know nothing of one another.
func TestTwoVaults(t *testing.T) {
	p, q := newPair(t, 20, 1024, 3), newPair(t, 20, 1024, 3)
	p.commits(edit("a", "1"))
	p.both("16.2: Begin", answers.Begin)
	q.alike("the other vault")
	q.says("0.3: the other vault's sessions", "1", answers.Begin)
	q.commits(edit("b", "2"))
	p.alike("the first vault")
	p.both("16.11: Close", answers.Close)
	q.alike("the other vault")
}
