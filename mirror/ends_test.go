package mirror_test

import (
	"fmt"
	"maps"
	"slices"
	"strings"
	"testing"

	"witness/api"
	"witness/disk"
	"witness/mirror"
	"witness/vault"
)

// at4 is a mirror over a vault on a disk of its own that has followed V up to version 2 and has a question of a kind now; V is at version 4.
func at4(t *testing.T, kind int) (*mirror.Mirror, *vault.Vault, *disk.Disk, *vault.Vault) {
	t.Helper()
	v := some(t, 9)
	commits(t, v, edit("a", "1"), edit("c", "three"))
	commits(t, v, edit("b", "2"))
	d, w := store(t, 40, 9)
	m := mirror.New(w, api.Head{})
	is(t, "18.9: a round", round(t, m, v), "head leaf proof nil")
	commits(t, v, edit("d", "4"))
	commits(t, v, gone("a"), edit("b", ""))
	starts(t, m)
	if kind == api.AskProof {
		until(t, m, v, api.AskDelta)
		must(t, "18.5: Hear", m.Hear(no(api.ErrVersion)))
	} else {
		until(t, m, v, kind)
	}
	return m, w, d, v
}

// failed holds that a round is over without a trace in the mirror.
func failed(t *testing.T, what string, m *mirror.Mirror, trusted api.Head) {
	t.Helper()
	idle(t, what, m)
	if n, ok := m.Done(); n != 0 || ok || m.Trusted() != trusted {
		t.Fatalf("18.7: %s: Done = %d, %v, Trusted = %v", what, n, ok, m.Trusted())
	}
}

// reply is an answer to a question.
type reply struct {
	b     []byte
	asked bool      // the copy is asked for something then
	want  api.Errno // where it is not
}

// replies are answers to a mirror's question, by names.
func replies(m *mirror.Mirror, v *vault.Vault, kind int) map[string]reply {
	q, _ := m.Ask()
	honest := mirror.Serve(v, q)
	l := map[string]reply{"no message": {[]byte{0}, false, api.ErrMessage}}
	switch kind {
	case api.AskHead, api.AskExtends:
		l["honest"] = reply{honest, false, api.OK}
		l["no"] = reply{no(3), false, api.ErrRefused}
	case api.AskLeaf:
		l["honest"] = reply{honest, true, api.OK}
		l["no"] = reply{no(3), false, api.ErrRefused}
		l["wrong"] = reply{say(api.Message{Kind: api.SayLeaf}), false, api.ErrTrust}
	case api.AskDelta:
		l["honest"] = reply{honest, true, api.OK}
		l["no"] = reply{no(3), true, api.OK}
		l["wrong"] = reply{say(api.Message{Kind: api.SayDelta}), true, api.OK}
	case api.AskProof:
		l["honest"] = reply{honest, true, api.OK}
		l["no"] = reply{no(3), false, api.ErrRefused}
		l["too long"] = reply{no(api.ErrProof), false, api.OK}
		l["wrong"] = reply{say(api.Message{Kind: api.SayProof}), false, api.ErrTrust}
	}
	return l
}

// TestCopyIsGone: the copy's vault is closed or dead at a question: that is told as soon as it is asked, and not sooner.
func TestCopyIsGone(t *testing.T) {
	for name, end := range endings(t) {
		for _, kind := range askKinds {
			m, _, _, v := at4(t, kind)
			for which := range replies(m, v, kind) {
				m, w, d, v := at4(t, kind)
				row := replies(m, v, kind)[which]
				trusted, before := m.Trusted(), everything(t, open(t, d))
				end.how(d, w)
				what := fmt.Sprint(name, ", ", kinds[kind], ": ", which)
				err := m.Hear(row.b)
				switch {
				case row.asked:
					fails(t, "18.5: "+what, err, end.want)
				case row.want == api.OK:
					must(t, "18.5: "+what, err)
					continue
				default:
					fails(t, "18.5: "+what, err, row.want)
				}
				failed(t, what, m, trusted)
				back(d)
				w = open(t, d)
				if name != "another" {
					is(t, "18.8: "+what+": the copy", everything(t, w), before)
				}
				m = mirror.New(w, trusted) // and on, with a vault that lives
				is(t, "18.9: "+what+": the next round", round(t, m, v), "head extends leaf delta nil")
				followed(t, what, m, w, v)
			}
		}
	}
}

// TestCopyIsGoneWithin: at a piece that is not the last one the copy is not asked; at the last one it is.
func TestCopyIsGoneWithin(t *testing.T) {
	m, w, _, v := at4(t, api.AskProof)
	trusted := m.Trusted()
	must(t, "18.5: Hear", m.Hear(no(api.ErrProof)))
	w.Close()
	must(t, "18.5: Hear of the first piece", answered(t, m, v))
	fails(t, "18.7: Hear of the last piece", answered(t, m, v), api.ErrDead)
	failed(t, "a vault that is closed", m, trusted)
}

// TestCopyIsSpoilt: the copy's map is read at the question for the delta, whatever is answered, and at the end; not for its label.
func TestCopyIsSpoilt(t *testing.T) {
	for _, kind := range []int{api.AskLeaf, api.AskDelta, api.AskProof} {
		for _, which := range []string{"honest", "no", "wrong"} {
			m, w, d, v := at4(t, kind)
			row := replies(m, v, kind)[which]
			trusted := m.Trusted()
			whole, versions := d.Copy(), fmt.Sprint(w.Versions())
			spoil(t, d, d.Copy(), api.KindValue, "three")
			what := fmt.Sprint(kinds[kind], ": ", which)
			err := m.Hear(row.b)
			switch {
			case kind == api.AskLeaf && which == "honest":
				must(t, "18.5: "+what, err)
				fails(t, "18.5: and then", m.Hear(no(0)), api.ErrTree)
			case row.asked:
				fails(t, "18.5: "+what, err, api.ErrTree)
			default:
				fails(t, "18.5: "+what, err, row.want)
			}
			failed(t, what, m, trusted)
			is(t, "18.8: "+what+": the copy's versions", fmt.Sprint(w.Versions()), versions)
			now, was := d.Image(), whole.Image()
			for i := range now {
				if now[i] != was[i] {
					d.Rot(i/512, i%512, now[i]^was[i])
				}
			}
			is(t, "18.9: "+what+": the next round", round(t, m, v), "head extends leaf delta nil")
			followed(t, what, m, w, v)
		}
	}
	v := threeVersions(t) // a copy that has the map already is not read
	d, w := store(t, 40, 3)
	commits(t, w, edit("a", "1"), edit("b", "2"))
	spoil(t, d, d.Copy(), api.KindValue, "2")
	m := mirror.New(w, api.Head{})
	is(t, "18.5: a round", round(t, m, v), "head leaf nil")
	if n, ok := m.Done(); n != 2 || !ok {
		t.Errorf("18.2: Done = %d, %v", n, ok)
	}
}

// TestAllSessionsOpen: there is no session for the copy's edits; where there are none none is needed.
func TestAllSessionsOpen(t *testing.T) {
	for _, kind := range []int{api.AskDelta, api.AskProof} {
		m, w, _, v := at4(t, kind)
		trusted := m.Trusted()
		n, err := w.Begin()
		must(t, "16.2: Begin", err)
		for range api.MaxSessions - 1 {
			_, err := w.Begin()
			must(t, "16.2: Begin", err)
		}
		must(t, "16.4: Put", w.Put(n, []byte("own"), nil))
		before := everything(t, w)
		fails(t, "18.7: Hear", answered(t, m, v), api.ErrSessions)
		failed(t, "no session", m, trusted)
		is(t, "18.7: the copy", everything(t, w), before)
		is(t, "18.7: the next round", round(t, m, v), "head extends leaf delta "+told(api.ErrSessions))
		must(t, "16.7: Abort", w.Abort(n+1))
		is(t, "18.7: and the next one", round(t, m, v), "head extends leaf delta nil")
		if l := w.Sessions(); len(l) != api.MaxSessions-1 || !maps.Equal(mapOf(t, w), mapOf(t, v)) {
			t.Fatalf("18.7: the sessions %v are open", l)
		}
		_, err = w.Begin()
		must(t, "16.2: Begin", err)
		is(t, "18.10: a round with nothing new", round(t, m, v), "head leaf nil")
		x := read(t, mirror.Serve(v, []byte{api.AskHead}))
		x.Count++ // so it is made anew, and nothing is unlike
		starts(t, m)
		must(t, "18.5: Hear", m.Hear(say(x)))
		is(t, "18.7: nothing to commit", rest(t, m, v), "leaf proof nil")
	}
}

// TestNoRoom: there is no room for the copy's new version; what was begun is ended, and behind making room the next round goes on.
func TestNoRoom(t *testing.T) {
	v := some(t, 9)
	d, w := store(t, 6, 9)
	m := mirror.New(w, api.Head{})
	full := 0
	for i := range 60 {
		commits(t, v, edit("a", letters(fmt.Sprint(i%10), 3000)))
		trusted, before := m.Trusted(), everything(t, w)
		got := round(t, m, v)
		if strings.HasSuffix(got, "nil") {
			followed(t, "while there is room", m, w, v)
			continue
		}
		full++
		is(t, "18.7: a round", got[strings.LastIndex(got, "error"):], told(api.ErrFull))
		failed(t, "no room", m, trusted)
		is(t, "18.7: the copy", everything(t, w), before)
		is(t, "18.7: opened again", fmt.Sprint(open(t, d.Copy()).Versions()), fmt.Sprint(w.Versions()))
		must(t, "16.10: Retain", w.Retain(1))
		for err := error(nil); err == nil; {
			_, err = w.Compact()
		}
		must(t, "16.10: Retain", w.Retain(9))
		is(t, "18.7: the next round", round(t, m, v), "head extends leaf delta nil")
		followed(t, "with room again", m, w, v)
	}
	if full < 3 {
		t.Errorf("18.7: there was no room %d times", full)
	}
}

// TestLastNumber: the copy has given out its last number.
func TestLastNumber(t *testing.T) {
	v := threeVersions(t)
	d := laid(t, api.MaxNumber)
	w := open(t, d)
	m := mirror.New(w, api.Head{})
	before := everything(t, w)
	is(t, "18.7: a round", round(t, m, v), "head leaf proof "+told(api.ErrLast))
	failed(t, "the last number", m, api.Head{})
	is(t, "18.7: the copy", everything(t, w), before)
	w = open(t, laid(t, api.MaxNumber-1))
	m = mirror.New(w, api.Head{})
	is(t, "18.7: a round", round(t, m, v), "head leaf proof nil")
	followed(t, "the number ahead of it", m, w, v)
}

// TestManyAtATime: MaxBatch keys that are unlike are a version, the others the next ones, in their order.
func TestManyAtATime(t *testing.T) {
	t.Parallel()
	for _, n := range []int{0, 1, api.MaxBatch - 1, api.MaxBatch, api.MaxBatch + 1, 2*api.MaxBatch + 1} {
		_, v := wide(t, 60, 3)
		_, w := wide(t, 60, 9)
		p := newPair(t, w, api.Head{})
		l := many(n, "x")
		for i := 0; i < n; i += 3 { // keys that are gone, others, and new
			l[i] = gone(string(l[i].Key))
		}
		commits(t, v, append(olds(l), edit("same", "1"), edit("k00000x", "same"))...)
		p.round(v)
		was := newest(t, w).Number
		old := mapOf(t, w)
		commits(t, v, l...)
		must(t, "16.10: Retain", v.Retain(1)) // no delta for some of them
		if n%2 == 0 {
			p.round(v)
		} else {
			p.start()
			p.until(v, api.AskDelta)
			p.hears("a delta", say(api.Message{Kind: api.SayDelta, Changes: changesOf(l)}))
		}
		followed(t, fmt.Sprint(n, " keys"), p.m, w, v)
		want := uint64((n + api.MaxBatch - 1) / api.MaxBatch)
		if now := newest(t, w).Number; now-was != want {
			t.Fatalf("18.7: %d keys are %d versions, want %d", n, now-was, want)
		}
		for i, edits := range slices.Collect(slices.Chunk(l, api.MaxBatch)) {
			for _, e := range edits {
				if delete(old, string(e.Key)); !e.Gone {
					old[string(e.Key)] = string(e.Value)
				}
			}
			if !maps.Equal(mapAt(t, w, was+uint64(i)+1), old) {
				t.Fatalf("18.7: %d keys: version %d of them is another map", n, i)
			}
		}
	}
}

// olds are what stands at edited keys ahead of it: each key that goes, and some others.
func olds(l []api.Edit) []api.Edit {
	var old []api.Edit
	for i, e := range l {
		if e.Gone || i%3 == 1 {
			old = append(old, edit(string(e.Key), "old"))
		}
	}
	return old
}

func changesOf(l []api.Edit) []api.Change {
	var changes []api.Change
	for _, e := range l {
		changes = append(changes, api.Change{Key: e.Key, Had: e.Gone, Has: !e.Gone, New: e.Value})
	}
	return changes
}

// TestPowerAtTheEnd: the power goes at each write and each flush of a round's end; what is left is the copy as it was or as it is to be, and behind opening it again the next round goes on.
func TestPowerAtTheEnd(t *testing.T) {
	for _, kind := range []int{api.AskDelta, api.AskProof} {
		met := map[string]int{}
		for fuse := 0; ; fuse++ {
			m, w, d, v := at4(t, kind)
			trusted, old := m.Trusted(), mapOf(t, w)
			d.Fuse(fuse)
			err := answered(t, m, v)
			if err == nil {
				followed(t, "the power holds", m, w, v)
				break
			}
			fails(t, fmt.Sprint("18.7: fuse ", fuse), err, api.ErrPower)
			failed(t, "the power is gone", m, trusted)
			if e := m.Start(); e != api.ErrDead {
				t.Fatalf("18.3: Start = %d", e)
			}
			for _, crash := range []api.Crash{{Torn: -1}, {Torn: -1, Keep: slices.Repeat([]bool{true}, len(d.Pending()))}} {
				x := d.Copy()
				x.Crash(crash)
				w := open(t, x)
				switch now := mapOf(t, w); {
				case maps.Equal(now, old):
					met["old"]++
				case maps.Equal(now, mapOf(t, v)):
					met["new"]++
				default:
					t.Fatalf("18.8: fuse %d: the copy is %v", fuse, now)
				}
				m := mirror.New(w, trusted)
				if got := round(t, m, v); !strings.HasSuffix(got, "nil") {
					t.Fatalf("18.9: fuse %d: %s", fuse, got)
				}
				followed(t, "behind a crash", m, w, v)
			}
		}
		if met["old"] < 5 || met["new"] < 1 {
			t.Errorf("18.7: %v", met)
		}
	}
}

// grown is a vault at version 1 with a = 1, and the same one some versions later, with keys that need three versions of a copy.
func grown(t *testing.T) (old, now *vault.Vault, l []api.Edit) {
	t.Helper()
	d, v := wide(t, 60, 9)
	commits(t, v, edit("a", "1"))
	old = open(t, d.Copy())
	l = many(2*api.MaxBatch+10, "x")
	commits(t, v, l...)
	return old, v, l
}

// part holds that a copy has the first keys, as many as there were commits: how many.
func part(t *testing.T, what string, w *vault.Vault, was uint64, l []api.Edit) int {
	t.Helper()
	done := int(newest(t, w).Number - was)
	want := map[string]string{"a": "1"}
	for _, e := range l[:min(len(l), done*api.MaxBatch)] {
		want[string(e.Key)] = "x"
	}
	if len(w.Sessions()) > 0 || !maps.Equal(mapOf(t, w), want) {
		t.Fatalf("18.7: %s: %d commits have stayed, the copy has %d keys, want %d; the sessions %v are open", what, done, len(mapOf(t, w)), len(want), w.Sessions())
	}
	return done
}

// TestPartByRoom: the commits ahead of one for which there is no room stay; behind making room the next round goes on from there.
func TestPartByRoom(t *testing.T) {
	t.Parallel()
	old, v, l := grown(t)
	met := map[int]int{}
	for segments := 13; segments < 16; segments++ {
		_, w := wide(t, segments, 2)
		for i := range 10 { // what only compaction makes room of
			commits(t, w, edit("junk", letters(fmt.Sprint(i), 60000)))
		}
		m := mirror.New(w, api.Head{})
		is(t, "18.9: a round", round(t, m, old), "head leaf proof nil")
		trusted, was := m.Trusted(), newest(t, w).Number
		got := round(t, m, v)
		if strings.HasSuffix(got, "nil") {
			continue
		}
		is(t, "18.7: a round", got, "head extends leaf delta "+told(api.ErrFull))
		failed(t, "no room", m, trusted)
		done := part(t, "no room", w, was, l)
		must(t, "16.10: Retain", w.Retain(1))
		for err := error(nil); err == nil; {
			_, err = w.Compact()
		}
		was = newest(t, w).Number
		if got := round(t, m, v); strings.HasSuffix(got, "nil") {
			met[done]++
			followed(t, "with room again", m, w, v)
			if now := int(newest(t, w).Number - was); now != 3-done {
				t.Errorf("18.7: %d commits behind %d", now, done)
			}
		}
	}
	if met[1]+met[2] == 0 {
		t.Errorf("18.7: rounds that went on behind so many commits: %v", met)
	}
}

// TestPartByPower: the same, where the power goes.
func TestPartByPower(t *testing.T) {
	t.Parallel()
	old, v, l := grown(t)
	d, w := wide(t, 60, 2)
	m := mirror.New(w, api.Head{})
	is(t, "18.9: a round", round(t, m, old), "head leaf proof nil")
	trusted, was := m.Trusted(), newest(t, w).Number
	whole := d.Copy()
	is(t, "18.9: a round", round(t, m, v), "head extends leaf delta nil")
	writes := int(d.Stats().Writes + d.Stats().Flushes - whole.Stats().Writes - whole.Stats().Flushes)
	met := map[int]int{}
	for share := range 6 {
		d := whole.Copy()
		m := mirror.New(open(t, d), trusted)
		d.Fuse(writes * share / 6)
		is(t, "18.7: a round", round(t, m, v), "head extends leaf delta "+told(api.ErrPower))
		failed(t, "no power", m, trusted)
		back(d)
		w := open(t, d)
		done := part(t, "no power", w, was, l)
		met[done]++
		m = mirror.New(w, trusted)
		is(t, "18.9: the next round", round(t, m, v), "head extends leaf delta nil")
		followed(t, "with power again", m, w, v)
		if now := int(newest(t, w).Number - was); now != 3 {
			t.Errorf("18.7: %d commits in all", now)
		}
	}
	if met[0] == 0 || met[1] == 0 {
		t.Errorf("18.7: rounds that went on behind so many commits: %v", met)
	}
}
