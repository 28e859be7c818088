package mirror_test

import (
	"fmt"
	"testing"

	"witness/api"
	"witness/disk"
	"witness/mirror"
	"witness/vault"
)

// asIs are a mirror's own words: its question, Done, Trusted.
func asIs(m *mirror.Mirror) string {
	q, ok := m.Ask()
	n, done := m.Done()
	return fmt.Sprintf("asks %x %v, done %d %v, trusts %v", q, ok, n, done, m.Trusted())
}

// TestNew: a mirror trusts what it is told to, whatever that says; no round has begun.
func TestNew(t *testing.T) {
	d, w := store(t, 40, 3)
	has := whatDiskHas(d)
	for _, h := range []api.Head{{}, {Label: api.Sum{1}}, {Size: 1}, {Size: 3, Label: api.Sum{2}}, {Size: api.MaxNumber + 1}, {Size: 1<<64 - 1, Label: api.Sum{9}}} {
		m := mirror.New(w, h)
		if n, ok := m.Done(); n != 0 || ok || m.Trusted() != h {
			t.Errorf("18.2: Done = %d, %v, Trusted = %v, want %v", n, ok, m.Trusted(), h)
		}
		idle(t, "a new mirror", m)
		starts(t, m)
		if m.Trusted() != h {
			t.Errorf("18.2: Trusted = %v, want %v", m.Trusted(), h)
		}
		asks(t, "18.3: a new mirror", m, api.Message{Kind: api.AskHead})
	}
	is(t, "18.2: the disk", whatDiskHas(d), has)
}

// TestLife: Ask, Hear, Done and Trusted ahead of a round, within one, behind one that ended well and one that failed.
func TestLife(t *testing.T) {
	v, w := threeVersions(t), some(t, 9)
	m := mirror.New(w, api.Head{})
	nothing := asIs(m)
	idle(t, "ahead of the first round", m)
	is(t, "18.5: behind Hear", asIs(m), nothing)
	starts(t, m)
	for _, kind := range []int{api.AskHead, api.AskLeaf, api.AskProof} {
		until(t, m, v, kind)
		now := asIs(m)
		is(t, "18.4: asked again", asIs(m), now)
		if n, ok := m.Done(); n != 0 || ok || m.Trusted() != (api.Head{}) {
			t.Fatalf("18.2: within a round: %s", now)
		}
	}
	must(t, "18.7: Hear", answered(t, m, v))
	followed(t, "the first round", m, w, v)
	h := headOf(t, v)
	well := fmt.Sprintf("asks  false, done 2 true, trusts %v", h)
	is(t, "18.2: behind a round that ended well", asIs(m), well)
	for range 3 {
		fails(t, "18.5: Hear", m.Hear(mirror.Serve(v, []byte{api.AskHead})), api.ErrIdle)
		is(t, "18.5: behind Hear", asIs(m), well)
	}
	starts(t, m)
	is(t, "18.3: within the next round", asIs(m), fmt.Sprintf("asks 01 true, done 0 false, trusts %v", h))
	fails(t, "18.5: Hear", m.Hear(nil), api.ErrMessage)
	lost := fmt.Sprintf("asks  false, done 0 false, trusts %v", h)
	is(t, "18.5: behind a round that failed", asIs(m), lost)
	idle(t, "behind a round that failed", m)
	is(t, "18.5: behind Hear", asIs(m), lost)
	is(t, "18.10: the next one", round(t, m, v), "head leaf nil")
	is(t, "18.2: behind a round with nothing new", asIs(m), well)
}

// TestEmpty: two vaults without anything: version 0 is followed.
func TestEmpty(t *testing.T) {
	v := some(t, 3)
	d, w := store(t, 40, 3)
	has := whatDiskHas(d)
	m := mirror.New(w, api.Head{})
	is(t, "18.10: a round", round(t, m, v), "head leaf nil")
	followed(t, "version 0", m, w, v)
	if n, ok := m.Done(); n != 0 || !ok {
		t.Errorf("18.2: Done = %d, %v", n, ok)
	}
	is(t, "18.10: the disk", whatDiskHas(d), has)
	commits(t, v, edit("", ""))
	is(t, "18.9: from Size 1", round(t, m, v), "head extends leaf delta nil")
	followed(t, "the empty key", m, w, v)
	commits(t, v, gone(""))
	is(t, "18.9: the empty map again", round(t, m, v), "head extends leaf delta nil")
	followed(t, "the empty map", m, w, v)
	commits(t, w, edit("own", "1"), edit("more", ""))
	is(t, "18.9: what the copy has beside it is gone", round(t, m, v), "head leaf proof nil")
	followed(t, "the empty map again", m, w, v)
}

// TestStartWithin: a round that is on its way is given up, with all that it has heard.
func TestStartWithin(t *testing.T) {
	for _, kind := range askKinds {
		for pieces := range 3 {
			p, v := scene(t, kind)
			for range pieces {
				if kind == api.AskProof { // a piece is shown, and others are wanted
					p.hears("too long", no(api.ErrProof))
					p.hears("a piece", mirror.Serve(v, p.asked()))
				}
			}
			p.start()
			asks(t, "18.3: Start within a round", p.m, api.Message{Kind: api.AskHead})
			p.until(v, api.AskProof)
			asks(t, "18.3: the span that is wanted at first", p.m, api.Message{Kind: api.AskProof, Version: 4, Span: all})
			p.rest(v)
			followed(t, "Start within a round", p.m, p.w, v)
		}
	}
}

// ending is how a vault comes to its end, and what it answers first then.
type ending struct {
	how  func(d *disk.Disk, v *vault.Vault)
	want api.Errno
}

func endings(t *testing.T) map[string]ending {
	return map[string]ending{
		"closed":  {func(_ *disk.Disk, v *vault.Vault) { v.Close() }, api.ErrDead},
		"off":     {func(d *disk.Disk, _ *vault.Vault) { off(d) }, api.ErrPower},
		"crashed": {func(d *disk.Disk, _ *vault.Vault) { back(d) }, api.ErrDead},
		"another": {func(d *disk.Disk, _ *vault.Vault) { commits(t, open(t, d), gone("nothing")) }, api.ErrDead},
	}
}

// TestStartOfTheDead: with a copy that is closed or dead nothing changes: not within a round, nor behind one.
func TestStartOfTheDead(t *testing.T) {
	for name, end := range endings(t) {
		for _, kind := range append(askKinds, 0) {
			v := threeVersions(t)
			d, w := store(t, 40, 9)
			m := mirror.New(w, api.Head{})
			is(t, "18.9: a round", round(t, m, v), "head leaf proof nil")
			if kind != 0 { // 0: behind a round that ended well
				commits(t, v, edit("q", "7"))
				starts(t, m)
				if kind == api.AskProof {
					until(t, m, v, api.AskDelta)
					must(t, "18.5: Hear", m.Hear(no(0)))
				} else {
					until(t, m, v, kind)
				}
			}
			was := asIs(m)
			end.how(d, w)
			for _, want := range []api.Errno{end.want, api.ErrDead, api.ErrDead} {
				if e := m.Start(); e != want {
					t.Errorf("18.3: %s: Start = %d, want %d", name, e, want)
				}
				is(t, fmt.Sprint("18.3: ", name, ", ", kinds[kind], ": behind Start"), asIs(m), was)
			}
		}
	}
	m := mirror.New(nil, api.Head{Size: 2})
	was := asIs(m)
	if e := m.Start(); e != api.ErrDead {
		t.Errorf("18.3: Start of no vault = %d", e)
	}
	is(t, "18.3: behind Start of no vault", asIs(m), was)
}
