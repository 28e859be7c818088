package vault_test

import (
	"fmt"
	"testing"

	"witness/annals"
	"witness/api"
	"witness/disk"
	"witness/prove"
	"witness/vault"
)

// library is a vault with versions 0 to 6 of which the last four are kept, and the model beside it.
func library(t *testing.T) *pair {
	t.Helper()
	p := newPair(t, 40, 1024, 4)
	p.commits(edit("a", "1"), edit("b", "2"), edit("c", "3"))
	p.commits(edit("d", "4"), gone("b"))
	p.commits(edit("c", letters("3", 200)), edit("", "nothing"))
	p.commits(gone("c"), edit("e", ""))
	p.commits(gone("x"))
	p.commits(edit("b", "2"), gone(""), gone("a"))
	return p
}

// TestVersions: every version, kept and not, in every call that takes one.
func TestVersions(t *testing.T) {
	p := library(t)
	p.says("16.8: Versions", "7", func(a answers) string { return fmt.Sprint(len(p.m.maps)) })
	p.alike("all versions")
	for _, version := range []uint64{0, 1, 2, 3, 4, 5, 6, 7, 1 << 40, 1<<64 - 1} {
		for _, key := range []string{"", "a", "b", "c", "d", "e", "x", letters("k", 1024), letters("k", 1025)} {
			p.both(fmt.Sprint("16.8: GetAt ", version, " of ", key), func(a answers) string { return a.GetAt(version, key) })
		}
		for _, s := range askedSpans() {
			what := fmt.Sprintf("version %d from %.9q to %.9q", version, s.Lo, s.Hi)
			for _, most := range []int{-1, 0, 1, 2, 3, 4, 5, 4096, 4097} {
				p.both("16.8: RangeAt "+what, func(a answers) string { return a.RangeAt(version, s, most) })
			}
			p.both("16.8: Each of "+what, func(a answers) string { return a.Each(version, s) })
			p.both("16.8: ProveAt of "+what, func(a answers) string { return a.ProveAt(version, s) })
		}
		for _, to := range []uint64{0, 2, 3, 4, 5, 6, 7, 1<<64 - 1} {
			p.both("16.8: Diff", func(a answers) string { return a.Diff(version, to) })
		}
	}
	p.says("16.8: Diff from one that is not kept to another", at(1, api.ErrVersion), func(a answers) string { return a.Diff(1, 2) })
	p.says("16.8: Diff to one that is not kept", at(2, api.ErrVersion), func(a answers) string { return a.Diff(4, 2) })
	p.says("16.8: Diff from one that is not kept", at(9, api.ErrVersion), func(a answers) string { return a.Diff(9, 4) })
	p.says("16.8: Diff of one", "", func(a answers) string { return a.Diff(5, 5) })
	p.says("16.8: Diff of two with one map", "", func(a answers) string { return a.Diff(4, 5) })
	p.says("16.8: RangeAt of no version", at(0, api.ErrVersion), func(a answers) string { return a.RangeAt(0, span("b", "a"), 0) })
	p.says("16.8: RangeAt of no span", refused(api.ErrBounds), func(a answers) string { return a.RangeAt(6, span("b", "a"), 0) })
	p.alike("behind all of this")
}

// TestProofs: a proof is prove.Span's, byte by byte.
func TestProofs(t *testing.T) {
	d, v := store(t, 40, 1024, 4)
	commits(t, v, edit("a", "1"), edit("b", "2"), edit("c", "3"))
	commits(t, v, edit("d", "4"), gone("b"))
	c := catalogOf(t, d)
	for _, s := range askedSpans() {
		for n := range uint64(3) {
			version, _ := c.Version(n)
			want, e := prove.Span(c.Blobs(), version.Tree, s)
			got, err := v.ProveAt(n, s)
			is(t, "16.8: ProveAt", fmt.Sprintf("%s %x", told(err), got), fmt.Sprintf("%s %x", told(none(e)), want))
		}
	}
}

// TestProofTooLong: a proof above its bound is refused as prove.Span does.
func TestProofTooLong(t *testing.T) {
	d, e := disk.New(2+40*512, 512)
	ok(t, e)
	must(t, "16.1: Format", vault.Format(d, 512, 2))
	v := open(t, d)
	var l []api.Edit
	for i := range 65 {
		l = append(l, edit(fmt.Sprint(i), letters(fmt.Sprint(i%10), 65536)))
	}
	a := asked{v}
	commits(t, v, l[:63]...)
	if got := a.ProveAt(1, all); len(got) < 1000 {
		t.Errorf("16.8: ProveAt just below the bound: %s", got)
	}
	commits(t, v, l...)
	is(t, "16.8: ProveAt above the bound", a.ProveAt(2, all), refused(api.ErrProof))
	if got := a.ProveAt(2, from("3")); len(got) < 1000 {
		t.Errorf("16.8: ProveAt of less: %s", got)
	}
}

// TestEach: left early, ranged over again, and looking when it is ranged over.
func TestEach(t *testing.T) {
	p := library(t)
	v := p.v.v
	each := v.Each(3, all)
	for most := range 6 {
		n := 0
		for e, err := range each {
			if n++; err != nil || string(e.Key) != []string{"", "a", "c", "d"}[n-1] {
				t.Errorf("16.8: Each: entry %d is %q, %s", n, e.Key, told(err))
			}
			if n > most {
				break
			}
		}
		if n != min(most+1, 4) {
			t.Errorf("16.8: Each left behind %d gave %d", most+1, n)
		}
	}
	given := func(each func(yield func(api.Entry, error) bool)) string {
		l := ""
		each(func(e api.Entry, err error) bool {
			l += fmt.Sprintf("%q %s; ", e.Key, told(err))
			if e.Key == nil != (err != nil) && len(e.Key) > 0 || err != nil && (e.Key != nil || e.Value != nil) {
				t.Errorf("16.8: Each gives %q with %s", e.Key, told(err))
			}
			return true
		})
		return l
	}
	all4 := `"" nil; "a" nil; "c" nil; "d" nil; `
	is(t, "0.6: Each", given(each), all4)
	bad, late := v.Each(3, span("b", "a")), v.Each(7, all)
	for range 2 {
		is(t, "16.8: Each of no span", given(bad), `"" `+refused(api.ErrBounds)+"; ")
		is(t, "16.8: Each of no version", given(late), `"" `+at(7, api.ErrVersion)+"; ")
	}
	p.commits(edit("q", "1"))
	is(t, "0.6: a version that is there now", given(late), `"b" nil; "d" nil; "e" nil; "q" nil; `)
	is(t, "0.6: a version that is gone now", given(each), `"" `+at(3, api.ErrVersion)+"; ")
	inner := 0
	for range late {
		for range late {
			inner++
		}
	}
	if inner != 16 {
		t.Errorf("0.6: Each within Each gives %d", inner)
	}
	is(t, "16.11: Close", told(v.Close()), "nil")
	is(t, "0.6: a vault that is closed now", given(late), `"" `+refused(api.ErrDead)+"; ")
}

// TestEachWithoutPower: the power goes while one ranges.
func TestEachWithoutPower(t *testing.T) {
	d, v := store(t, 16, 1024, 2)
	commits(t, v, edit("a", "1"), edit("b", "2"), edit("c", "3"))
	got := ""
	for e, err := range v.Each(1, all) {
		got += fmt.Sprintf("%q %s; ", e.Key, told(err))
		off(d)
	}
	is(t, "16.8: Each", got, `"a" nil; "" `+refused(api.ErrPower)+"; ")
	is(t, "16, 'Words': behind it", asked{v}.Head(), refused(api.ErrDead))
	d, v = store(t, 16, 1024, 2)
	commits(t, v, edit("a", "1"), edit("b", "2"))
	for range v.Each(1, all) {
		off(d)
		break // who stops early does not hear of it
	}
	is(t, "16, 'Words': behind one that was left", asked{v}.Head(), refused(api.ErrPower))
}

// TestAnnals: paths of each leaf and each size, among few and many versions, kept or not.
func TestAnnals(t *testing.T) {
	p := newPair(t, 60, 1024, 2)
	var heads []api.Head
	for n := range uint64(20) {
		head, err := p.v.v.Head()
		must(t, "16.9: Head", err)
		heads = append(heads, head)
		for i := range n + 3 {
			p.both(fmt.Sprint("16.9: Included ", i), func(a answers) string { return a.Included(i) })
			p.both(fmt.Sprint("16.9: Extends ", i), func(a answers) string { return a.Extends(i) })
		}
		p.both("16.9: Head", answers.Head)
		shown(t, p.v.v, p.m, heads)
		p.commits(edit(fmt.Sprint(n%3), fmt.Sprint(n)))
	}
	p.says("16.9: Included of none", at(uint64(1<<63), api.ErrVersion), func(a answers) string { return a.Included(1 << 63) })
	p.says("16.9: Included above the newest", at(21, api.ErrVersion), func(a answers) string { return a.Included(21) })
	p.says("16.9: Extends of 0", pathWords(nil), func(a answers) string { return a.Extends(0) })
	p.says("16.9: Extends of the size", pathWords(nil), func(a answers) string { return a.Extends(21) })
	p.says("16.9: Extends above it", refused(api.ErrLeaf), func(a answers) string { return a.Extends(22) })
	p.says("16.9: Extends of the last number", refused(api.ErrLeaf), func(a answers) string { return a.Extends(1<<64 - 1) })
}

// shown holds paths against what they shall show.
func shown(t *testing.T, v *vault.Vault, m *model, heads []api.Head) {
	t.Helper()
	now := heads[len(heads)-1]
	for i, leaf := range m.leaves() {
		path, err := v.Included(uint64(i))
		if err != nil || annals.Included(now, uint64(i), leaf, path) != api.OK {
			t.Errorf("16.9: Included %d among %d does not show it", i, now.Size)
		}
		path, err = v.Extends(heads[i].Size)
		if err != nil || annals.Extends(heads[i], now, path) != api.OK {
			t.Errorf("16.9: Extends %d to %d does not show it", heads[i].Size, now.Size)
		}
	}
}
