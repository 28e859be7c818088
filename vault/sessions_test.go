package vault_test

import (
	"fmt"
	"testing"

	"witness/api"
)

// pair is a vault and the model beside it: each thing is asked of both.
type pair struct {
	t *testing.T
	v asked
	m *model
}

func newPair(t *testing.T, segments, whole, window int) *pair {
	t.Helper()
	_, v := store(t, segments, whole, window)
	return &pair{t, asked{v}, newModel(window)}
}

// both asks both, and holds one answer against the other.
func (p *pair) both(what string, ask func(a answers) string) string {
	p.t.Helper()
	want := ask(p.m)
	got := ask(p.v)
	if got != want {
		p.t.Fatalf("%s: %.900s\nwant %.900s", what, got, want)
	}
	return got
}

// says asks both, and holds the answer besides against one by hand.
func (p *pair) says(what, want string, ask func(a answers) string) {
	p.t.Helper()
	is(p.t, what, p.both(what, ask), want)
}

// alike holds all that can be read of both against each other.
func (p *pair) alike(what string) {
	p.t.Helper()
	var sessions []int
	for n := range p.m.begun + 2 {
		sessions = append(sessions, n)
	}
	p.both("16.12: "+what, func(a answers) string { return everything(a, sessions, uint64(len(p.m.maps))) })
}

// commits is a new version by edits, of both.
func (p *pair) commits(l ...api.Edit) {
	p.t.Helper()
	p.both("16.2: Begin", answers.Begin)
	p.both("16.4: Batch", func(a answers) string { return a.Batch(p.m.begun, l) })
	p.both("16.6: Commit", func(a answers) string { return a.Commit(p.m.begun) })
}

// TestBegin: numbers are never given twice; at most 16 sessions are open.
func TestBegin(t *testing.T) {
	p := newPair(t, 16, 1024, 2)
	for _, key := range []string{"a", "b", "c"} {
		p.commits(edit(key, "1"))
	}
	p.says("16.2: BeginAt of a version that is gone", at(1, api.ErrVersion), func(a answers) string { return a.BeginAt(1) })
	p.says("16.2: BeginAt of one to come", at(4, api.ErrVersion), func(a answers) string { return a.BeginAt(4) })
	p.says("16.2: BeginAt of the last number", at(uint64(1<<64-1), api.ErrVersion), func(a answers) string { return a.BeginAt(1<<64 - 1) })
	p.says("16.2: Begin", "4", answers.Begin)
	p.says("16.2: BeginAt", "5", func(a answers) string { return a.BeginAt(2) })
	p.says("16.2: BeginAt", "6", func(a answers) string { return a.BeginAt(3) })
	p.says("16.7: Abort", "nil", func(a answers) string { return a.Abort(6) })
	p.says("16.2: Begin behind Abort", "7", answers.Begin)
	p.says("16.6: Commit without edits", "3", func(a answers) string { return a.Commit(7) })
	p.says("16.2: Begin behind Commit", "8", answers.Begin)
	p.alike("sessions on two versions")
	for i := range 13 {
		p.says("16.2: Begin", fmt.Sprint(9+i), answers.Begin)
	}
	p.says("16.7: Sessions", "[4 5 8 9 10 11 12 13 14 15 16 17 18 19 20 21]", answers.Sessions)
	for range 2 {
		p.says("16.2: Begin with 16 open", refused(api.ErrSessions), answers.Begin)
		p.says("16.2: BeginAt with 16 open", refused(api.ErrSessions), func(a answers) string { return a.BeginAt(2) })
		p.says("16.2: BeginAt of no version with 16 open", at(1, api.ErrVersion), func(a answers) string { return a.BeginAt(1) })
	}
	p.both("16.4: Put", func(a answers) string { return a.Put(9, "d", "1") })
	p.says("16.6: Commit with 16 open", "4", func(a answers) string { return a.Commit(9) })
	p.says("16.2: Begin with 15 open", "22", answers.Begin)
	p.says("16.2: Begin with 16 open again", refused(api.ErrSessions), answers.Begin)
	p.says("16.2: a stale session is open", at(2, api.ErrStale), func(a answers) string { return a.Get(5, "a") })
	p.says("16.7: Abort of a stale one", "nil", func(a answers) string { return a.Abort(5) })
	p.says("16.2: BeginAt with 15 open", "23", func(a answers) string { return a.BeginAt(3) })
	p.alike("behind all of this")
}

// TestSessionErrors: ErrSession ahead of ErrStale ahead of all others; Abort has the first alone.
func TestSessionErrors(t *testing.T) {
	p := newPair(t, 16, 1024, 2)
	p.both("16.2: Begin", answers.Begin) // 1, on version 0
	p.both("16.2: Begin", answers.Begin) // 2, on version 0
	p.both("16.4: Put", func(a answers) string { return a.Put(2, "x", "1") })
	p.commits(edit("a", "1")) // 3
	p.both("16.2: Begin", answers.Begin)
	p.alike("all are fresh")
	p.commits(edit("b", "1")) // 5: from here on 0 is gone
	p.alike("1 and 2 are stale")
	long := letters("k", 1025)
	bad := api.Span{Lo: []byte(long + "kk"), Hi: []byte("a")}
	asks := map[string]func(a answers, n int) string{
		"Put":    func(a answers, n int) string { return a.Put(n, long, "") },
		"Delete": func(a answers, n int) string { return a.Delete(n, long) },
		"Batch":  func(a answers, n int) string { return a.Batch(n, []api.Edit{gone(long)}) },
		"Get":    func(a answers, n int) string { return a.Get(n, long) },
		"Range":  func(a answers, n int) string { return a.Range(n, bad, 0) },

		"Put of a known key":    func(a answers, n int) string { return a.Put(n, "x", "2") },
		"Delete of a known key": func(a answers, n int) string { return a.Delete(n, "x") },
		"Batch of nothing":      func(a answers, n int) string { return a.Batch(n, nil) },
		"Get of a known key":    func(a answers, n int) string { return a.Get(n, "x") },
		"Range of all":          func(a answers, n int) string { return a.Range(n, all, 1) },
		"Commit":                func(a answers, n int) string { return a.Commit(n) },
	}
	for name, ask := range asks {
		for _, n := range []int{0, -1, 3, 5, 6, 99} { // none, ended, to come
			p.says(fmt.Sprint("16.3: ", name, " in ", n), refused(api.ErrSession), func(a answers) string { return ask(a, n) })
		}
		for _, n := range []int{1, 2} {
			p.says(fmt.Sprint("16.3: ", name, " in ", n), at(0, api.ErrStale), func(a answers) string { return ask(a, n) })
		}
	}
	p.says("16.7: Sessions", "[1 2 4]", answers.Sessions)
	for _, n := range []int{0, -1, 3, 5, 6, 99} {
		p.says("16.3: Abort of none", refused(api.ErrSession), func(a answers) string { return a.Abort(n) })
	}
	for _, n := range []int{2, 1} {
		p.says("16.3: Abort of a stale one", "nil", func(a answers) string { return a.Abort(n) })
		p.says("16.3: Abort again", refused(api.ErrSession), func(a answers) string { return a.Abort(n) })
		p.says("16.3: Get behind Abort", refused(api.ErrSession), func(a answers) string { return a.Get(n, "x") })
	}
	p.says("16.7: Sessions", "[4]", answers.Sessions)
	p.alike("behind all of this")
}

// TestEditLimits: keys and values just as long as they may be, and one byte longer.
func TestEditLimits(t *testing.T) {
	p := newPair(t, 3, 1<<17, 2)
	p.both("16.2: Begin", answers.Begin)
	key, value := letters("k", 1024), letters("v", 65536)
	no, ok := refused(api.ErrLimit), "nil"
	for i, row := range []struct {
		want string
		ask  func(a answers) string
	}{
		{no, func(a answers) string { return a.Put(1, key+"k", "") }},
		{no, func(a answers) string { return a.Put(1, key+"k", value+"v") }},
		{no, func(a answers) string { return a.Put(1, "", value+"v") }},
		{no, func(a answers) string { return a.Put(1, key, value+"v") }},
		{no, func(a answers) string { return a.Delete(1, key+"k") }},
		{no, func(a answers) string { return a.Batch(1, []api.Edit{edit(key+"k", "")}) }},
		{no, func(a answers) string { return a.Batch(1, []api.Edit{gone(key + "k")}) }},
		{no, func(a answers) string { return a.Batch(1, []api.Edit{edit("a", "1"), edit("b", value+"v")}) }},
		{no, func(a answers) string { return a.Batch(1, []api.Edit{edit("a", "1"), gone("b"), gone(key + "k")}) }},
		{no, func(a answers) string {
			return a.Batch(1, []api.Edit{edit("a", "1"), edit("b", value+"v"), edit("b", "2")})
		}},
		{ok, func(a answers) string { return a.Put(1, key, value) }},
		{ok, func(a answers) string { return a.Put(1, "", "") }},
		{ok, func(a answers) string { return a.Delete(1, key[1:]) }},
		{no, func(a answers) string { return a.Put(1, key, value+"v") }},
		{no, func(a answers) string { return a.Put(1, "", value+"v") }},
		{ok, func(a answers) string {
			return a.Batch(1, []api.Edit{{Key: []byte("g"), Value: []byte(value + "v"), Gone: true}})
		}},
		{ok, func(a answers) string { return a.Batch(1, []api.Edit{edit("a", value), gone(key), edit("z", "9")}) }},
		{ok, func(a answers) string { return a.Batch(1, nil) }},
		{ok, func(a answers) string { return a.Batch(1, []api.Edit{}) }},
		{ok, func(a answers) string {
			return a.Batch(1, []api.Edit{edit("m", "1"), gone("m"), edit("m", "2"), edit("n", "1"), gone("n"), gone("o"), edit("o", "3")})
		}},
		{ok, func(a answers) string { return a.Put(1, key, value) }},
		{ok, func(a answers) string { return a.Get(1, key) + a.Get(1, "m") + a.Get(1, "n") + a.Get(1, "o") }},
		{no, func(a answers) string { return a.Get(1, key+"k") }},
	} {
		what := fmt.Sprint("16.4, 16.5: edit ", i)
		got := p.both(what, row.ask)
		if (got == no) != (row.want == no) {
			t.Errorf("%s: %s", what, got)
		}
		p.both(what+": what is seen then", func(a answers) string { return a.Range(1, all, 4096) })
	}
	p.says("16.6: Commit", "1", func(a answers) string { return a.Commit(1) })
	p.alike("behind Commit")
	p.says("16.8: GetAt of a long key", no, func(a answers) string { return a.GetAt(1, key+"k") })
	p.says("16.8: GetAt of a key as long as may be", valueWords(value, true), func(a answers) string { return a.GetAt(1, key) })
}

// TestManyEdits: 4096 keys may be edited in a session, and no more.
func TestManyEdits(t *testing.T) {
	numbered := func(from, to int) []api.Edit {
		var l []api.Edit
		for i := from; i < to; i++ {
			l = append(l, edit(fmt.Sprintf("k%05d", i), fmt.Sprint(i%7)))
		}
		return l
	}
	no := refused(api.ErrLimit)
	p := newPair(t, 24, 1<<17, 2)
	for range 3 {
		p.both("16.2: Begin", answers.Begin)
	}
	p.says("16.4: Batch of 4097", no, func(a answers) string { return a.Batch(1, numbered(0, 4097)) })
	p.says("16.4: Batch of 4097 edits of one key", no, func(a answers) string {
		l := make([]api.Edit, 4097)
		return a.Batch(1, l)
	})
	p.says("16.5: none of it is taken", listWords(nil, false), func(a answers) string { return a.Range(1, all, 9) })
	p.says("16.4: Batch of 4096 edits of one key", "nil", func(a answers) string { return a.Batch(1, make([]api.Edit, 4096)) })
	p.says("16.4: Batch of 4096 keys with one known", no, func(a answers) string { return a.Batch(1, numbered(0, 4096)) })
	p.says("16.4: Batch of 4095 keys with one known", "nil", func(a answers) string { return a.Batch(1, numbered(0, 4095)) })
	p.says("16.4: Put of one more", no, func(a answers) string { return a.Put(1, "one more", "") })
	p.says("16.4: Delete of one more", no, func(a answers) string { return a.Delete(1, "one more") })
	p.says("16.4: Batch of one more", no, func(a answers) string { return a.Batch(1, []api.Edit{edit("k00001", "x"), edit("one more", "")}) })
	p.says("16.5: none of it is taken", `"1" true`, func(a answers) string { return a.Get(1, "k00001") })
	p.says("16.4: Put of a known key", "nil", func(a answers) string { return a.Put(1, "k00001", "known") })
	p.says("16.4: Delete of a known key", "nil", func(a answers) string { return a.Delete(1, "k00002") })
	p.says("16.4: Put of one that is gone", "nil", func(a answers) string { return a.Put(1, "k00002", "back") })
	p.says("16.4: Delete of a known key", "nil", func(a answers) string { return a.Delete(1, "k00003") })
	p.says("16.4: Batch of known keys", "nil", func(a answers) string { return a.Batch(1, numbered(7, 4095)) })
	p.says("16.4: a key that is gone is edited still", no, func(a answers) string { return a.Put(1, "one more", "") })
	p.both("16.5: Range", func(a answers) string { return a.Range(1, all, 4096) })
	p.both("16.5: Range", func(a answers) string { return a.Range(1, all, 4094) })

	p.says("16.4: 4095 keys", "nil", func(a answers) string { return a.Batch(2, numbered(0, 4095)) })
	p.says("16.4: Batch with two more", no, func(a answers) string { return a.Batch(2, numbered(4094, 4097)) })
	p.says("16.4: Batch with one more, several times", "nil", func(a answers) string {
		return a.Batch(2, []api.Edit{edit("new", "1"), gone("new"), edit("new", "2"), edit("k00000", "y")})
	})
	p.says("16.4: one more", no, func(a answers) string { return a.Delete(2, "one more") })
	p.says("16.6: Commit of 4096 edits", "1", func(a answers) string { return a.Commit(2) })
	p.says("16.6: Commit of the others", lost("k00000"), func(a answers) string { return a.Commit(1) })
	p.says("16.4: another session has edits of its own", "nil", func(a answers) string { return a.Batch(3, numbered(4097, 8193)) })
	p.says("16.6: Commit of 4096 edits", "2", func(a answers) string { return a.Commit(3) })
	p.both("16.6: Versions", answers.Versions)
	p.both("16.8: RangeAt", func(a answers) string { return a.RangeAt(2, all, 4096) })
	p.both("16.8: RangeAt", func(a answers) string { return a.RangeAt(2, from("k04096"), 4096) })
	p.says("16.7: Sessions", "[1]", answers.Sessions)
}

// spans that are asked for, fit and not.
func askedSpans() []api.Span {
	long := letters("k", 1026)
	return []api.Span{
		all, from("b"), from("bb"), from("zzz"), from(long[1:]), span("", "a"), span("", "b"), span("a", "b"), span("b", "e"), span("c", "ca"), span("", "z"), span("x", "z"), span("a", long[1:]),
		{Lo: []byte("b"), Hi: []byte("a"), Open: true}, {Hi: []byte(long), Open: true},
		{}, span("a", "a"), span("b", "a"), span(long[1:], long[1:]), from(long), span(long, "a"), span("a", long), span(long, long),
	}
}

// TestSees: Get and Range of a session, edits over the base.
func TestSees(t *testing.T) {
	bases := [][]api.Edit{
		nil,
		{edit("b", "1")},
		{edit("a", "1"), edit("b", "2"), edit("c", "3"), edit("d", ""), edit("e", "5")},
	}
	batches := [][]api.Edit{
		nil,
		{edit("b", "1")},
		{edit("b", "9"), gone("c")},
		{gone("a"), gone("b"), gone("c"), gone("d"), gone("e")},
		{gone("e"), edit("f", "6")},
		{edit("", "0"), gone("nothing"), edit("c", ""), edit("ca", "x"), gone("d"), edit("y", "y")},
		{gone("c"), edit("c", "3")},
		{edit("z", "26")},
	}
	for _, base := range bases {
		p := newPair(t, 16, 1024, 2)
		if base != nil {
			p.commits(base...)
		}
		for _, l := range batches {
			p.both("16.2: Begin", answers.Begin)
			n := p.m.begun
			p.both("16.4: Batch", func(a answers) string { return a.Batch(n, l) })
			for _, key := range []string{"", "a", "b", "c", "ca", "d", "e", "f", "nothing", "y", "z", letters("k", 1024), letters("k", 1025)} {
				p.both("16.5: Get of "+key, func(a answers) string { return a.Get(n, key) })
			}
			for _, s := range askedSpans() {
				for _, most := range []int{-1, 0, 1, 2, 3, 4, 5, 6, 7, 4096, 4097, 1 << 62} {
					p.both(fmt.Sprintf("16.5: Range from %.9q to %.9q, %d", s.Lo, s.Hi, most), func(a answers) string { return a.Range(n, s, most) })
				}
			}
		}
		p.alike("all sessions")
		for n := range p.m.begun {
			p.both("16.6: Commit", func(a answers) string { return a.Commit(n + 1) })
		}
		p.alike("behind their commits")
	}
}

// TestRangeOfMany: just as many entries as may be asked for, and one more.
func TestRangeOfMany(t *testing.T) {
	p := newPair(t, 24, 1<<17, 2)
	for i := range 2 {
		var l []api.Edit
		for j := range 2048 + i {
			l = append(l, edit(fmt.Sprintf("%d%04d", i, j), "v"))
		}
		p.commits(l...)
	}
	p.both("16.2: BeginAt", func(a answers) string { return a.BeginAt(1) })
	p.both("16.2: Begin", answers.Begin)
	ask := func(n, most int) {
		t.Helper()
		p.both(fmt.Sprint("16.5: Range of ", most), func(a answers) string { return a.Range(n, all, most) })
	}
	check := func(version uint64, n int) {
		t.Helper()
		for _, most := range []int{2047, 2048, 2049, 4095, 4096} {
			ask(n, most)
			p.both(fmt.Sprint("16.8: RangeAt of ", most), func(a answers) string { return a.RangeAt(version, all, most) })
		}
	}
	check(1, 3)
	check(2, 4)
	p.says("16.5: 4097 entries", "true", func(a answers) string { s := a.Range(4, all, 4096); return s[len(s)-4:] })
	p.both("16.4: Delete", func(a answers) string { return a.Delete(4, "00000") })
	p.both("16.4: Put", func(a answers) string { return a.Put(4, "00001", "other") })
	p.says("16.5: 4096 entries", "false", func(a answers) string { s := a.Range(4, all, 4096); return s[len(s)-5:] })
	check(2, 4)
	p.both("16.4: Put", func(a answers) string { return a.Put(4, "the last", "") })
	p.says("16.5: 4097 entries again", "true", func(a answers) string { s := a.Range(4, all, 4096); return s[len(s)-4:] })
}
