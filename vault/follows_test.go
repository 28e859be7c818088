package vault_test

import (
	"fmt"
	"math/rand/v2"
	"testing"

	"witness/api"
	"witness/disk"
	"witness/vault"
)

// TestSnapshots: what sessions see never changes, whatever others commit, keep and compact.
func TestSnapshots(t *testing.T) {
	_, v := store(t, 60, 1024, 12)
	a := asked{v}
	commits(t, v, edit("a", "1"), edit("b", "2"), edit("c", "3"))
	quiet := begun(t, v)
	playing := edited(t, v, edit("b", "own"), gone("c"), edit("d", "own"))
	is(t, "16.2: BeginAt", a.BeginAt(0), "4")
	seen := func() string {
		return fmt.Sprint(a.Range(quiet, all, 9), a.Range(playing, all, 9), a.Range(4, all, 9), a.Get(quiet, "b"), a.Get(playing, "a"), a.Get(playing, "b"), a.Get(4, "a"))
	}
	was := seen()
	for i := range 8 {
		commits(t, v, edit(string(rune('a'+i%5)), fmt.Sprint("other", i)), gone(string(rune('a'+(i+1)%5))))
		is(t, "16.13: what sessions see behind a commit", seen(), was)
		a.Compact()
		is(t, "16.13: what sessions see behind Compact", seen(), was)
	}
	is(t, "16.10: Retain", a.Retain(10), "nil")
	is(t, "16.13: what sessions see behind Retain", fmt.Sprint(a.Range(quiet, all, 9), a.Get(playing, "d")), listWords([]string{entryWords("a", "1"), entryWords("b", "2"), entryWords("c", "3")}, false)+valueWords("own", true))
	is(t, "16.13: its commit", a.Commit(playing), lost("b"))
}

// TestAsIfJustThere: a session that commits has the same effect as one that is begun, played and committed just there.
func TestAsIfJustThere(t *testing.T) {
	r := noise(7)
	key := func() string { return string(rune('a' + r.IntN(12))) }
	edits := func() []api.Edit {
		var l []api.Edit
		for range 1 + r.IntN(3) {
			l = append(l, api.Edit{Key: []byte(key()), Value: []byte(fmt.Sprint(r.IntN(4))), Gone: r.IntN(3) == 0})
		}
		return l
	}
	d, v := store(t, 60, 4096, 64)
	commits(t, v, edit("a", "1"), edit("b", "2"), edit("c", "3"), edit("d", "4"))
	met := map[bool]int{}
	for range 12 {
		l, m := edits(), edits()
		n, k := edited(t, v, l...), edited(t, v, m...)
		_, err := v.Commit(n)
		must(t, "16.6: Commit", err)
		ahead := d.Copy()
		number, err := v.Commit(k)
		met[err == nil]++
		if err != nil {
			is(t, "16.7: Abort", asked{v}.Abort(k), "nil")
			continue
		}
		there := open(t, ahead)
		is(t, "16.13: begun just there", fmt.Sprint(commits(t, there, m...)), fmt.Sprint(number))
		is(t, "16.13: its effect", asked{there}.Versions()+asked{there}.Head(), asked{v}.Versions()+asked{v}.Head())
		is(t, "16.13: its map", asked{there}.Each(number, all), asked{v}.Each(number, all))
	}
	if len(met) != 2 {
		t.Errorf("16.13: commits of all sorts: %v", met)
	}
}

// TestManyOnOne: many sessions on one version; of those that edit one key the first one wins.
func TestManyOnOne(t *testing.T) {
	for seed := range uint64(20) {
		r := noise(seed)
		p := newPair(t, 60, 2048, 20)
		p.commits(edit("a", "1"), edit("b", "2"), edit("c", "3"))
		for range 16 {
			p.both("16.2: Begin", answers.Begin)
			for range 1 + r.IntN(3) {
				l := []api.Edit{{Key: []byte{byte('a' + r.IntN(9))}, Value: []byte{byte('1' + r.IntN(3))}, Gone: r.IntN(4) == 0}}
				p.both("16.4: Batch", func(a answers) string { return a.Batch(p.m.begun, l) })
			}
		}
		order := r.Perm(16)
		for range 2 { // who has lost may win later, if his keys have their old values again
			for _, i := range order {
				p.both("16.13: Commit", func(a answers) string { return a.Commit(2 + i) })
			}
		}
		p.alike("many sessions on one version")
	}
}

// road is a way to a map: edits in some order, in some number of versions, over what came and went.
func road(t *testing.T, r *rand.Rand, v *vault.Vault, m map[string]string) uint64 {
	t.Helper()
	var l []api.Edit
	for _, e := range entriesOf(m) {
		l = append(l, edit(string(e.Key), string(e.Value)))
	}
	r.Shuffle(len(l), func(i, j int) { l[i], l[j] = l[j], l[i] })
	var detour []api.Edit
	for i := range r.IntN(6) {
		detour = append(detour, edit(fmt.Sprint("detour", i), letters("d", r.IntN(50))), edit(string(rune('a'+i)), "detour"))
	}
	if len(detour) > 0 {
		commits(t, v, detour...)
	}
	for len(l) > 0 {
		n := 1 + r.IntN(len(l))
		commits(t, v, l[:n]...)
		l = l[n:]
	}
	version, err := v.Versions()
	must(t, "16.8: Versions", err)
	var gones []api.Edit
	for e, err := range v.Each(version[len(version)-1].Number, all) {
		must(t, "16.8: Each", err)
		if value, there := m[string(e.Key)]; !there || value != string(e.Value) {
			gones = append(gones, gone(string(e.Key)))
		}
	}
	return commits(t, v, append(gones, gone("nothing"))...)
}

// TestOneMapOneLabel: by two roads, in one vault and in two.
func TestOneMapOneLabel(t *testing.T) {
	for seed := range uint64(12) {
		r := noise(seed)
		m := map[string]string{}
		for range r.IntN(12) {
			m[string(rune('a'+r.IntN(20)))] = letters("v", r.IntN(90))
		}
		want := fmt.Sprintf("%d keys, %x", len(m), labelOf(m))
		for i, d := range []*disk.Disk{blank(t, 60, 1024, 1), blank(t, 30, 4096, 64), blank(t, 90, 2048, 7)} {
			v := open(t, d)
			for range 1 + r.IntN(3) {
				n := road(t, r, v, m)
				version, e := catalogOf(t, d).Version(n)
				ok(t, e)
				is(t, fmt.Sprint("16.14: vault ", i), fmt.Sprintf("%d keys, %x", version.Tree.Count, version.Tree.Label), want)
				if r.IntN(2) == 0 {
					v = open(t, d)
				}
			}
		}
	}
}
