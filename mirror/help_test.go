package mirror_test

import (
	"crypto/sha256"
	"fmt"
	"maps"
	"math/rand/v2"
	"slices"
	"strings"
	"testing"

	"witness/api"
	"witness/codec"
	"witness/disk"
	"witness/mirror"
	"witness/node"
	"witness/vault"
)

func noise(seed uint64) *rand.Rand { return rand.New(rand.NewPCG(seed, 18)) }

// told is an error as it is, with what it is around: its type counts.
func told(err error) string {
	switch x := err.(type) {
	case nil:
		return "nil"
	case api.Errno:
		return fmt.Sprint("error ", int(x))
	case *api.VersionError:
		return fmt.Sprint("version ", x.Number, ": ", told(x.Err))
	case *api.KeyError:
		return fmt.Sprintf("key %q: %s", x.Key, told(x.Err))
	}
	return fmt.Sprintf("no error of the document: %T %v", err, err)
}

func is(t *testing.T, what, got, want string) {
	t.Helper()
	if got != want {
		t.Fatalf("%s: %.900s\nwant %.900s", what, got, want)
	}
}

// fails holds that an error is just that Errno, as it is.
func fails(t *testing.T, what string, err error, want api.Errno) {
	t.Helper()
	is(t, what, told(err), told(want))
}

func must(t *testing.T, what string, err error) {
	t.Helper()
	is(t, what, told(err), "nil")
}

// store is a vault over a new disk of so many segments of 8192 bytes.
func store(t *testing.T, segments, window int) (*disk.Disk, *vault.Vault) {
	t.Helper()
	return formatted(t, segments, 512, 16, window)
}

// wide is one over segments of 131072 bytes, into which the longest values fit.
func wide(t *testing.T, segments, window int) (*disk.Disk, *vault.Vault) {
	t.Helper()
	return formatted(t, segments, 4096, 32, window)
}

func formatted(t *testing.T, segments, sector, span, window int) (*disk.Disk, *vault.Vault) {
	t.Helper()
	d, e := disk.New(2+segments*span, sector)
	if e != api.OK {
		t.Fatal(e)
	}
	must(t, "16.1: Format", vault.Format(d, span, window))
	return d, open(t, d)
}

func open(t *testing.T, d *disk.Disk) *vault.Vault {
	t.Helper()
	v, err := vault.Open(d)
	must(t, "16.1: Open", err)
	return v
}

// some is a vault without many things in it.
func some(t *testing.T, window int) *vault.Vault {
	t.Helper()
	_, v := store(t, 40, window)
	return v
}

func edit(key, value string) api.Edit { return api.Edit{Key: []byte(key), Value: []byte(value)} }

func gone(key string) api.Edit { return api.Edit{Key: []byte(key), Gone: true} }

func from(lo string) api.Span { return api.Span{Lo: []byte(lo), Open: true} }

func span(lo, hi string) api.Span { return api.Span{Lo: []byte(lo), Hi: []byte(hi)} }

var all = api.Span{Open: true}

// commits is a new version by edits, in as many sessions as they need.
func commits(t *testing.T, v *vault.Vault, l ...api.Edit) {
	t.Helper()
	for edits := range slices.Chunk(l, api.MaxBatch) {
		n, err := v.Begin()
		must(t, "16.2: Begin", err)
		must(t, "16.4: Batch", v.Batch(n, edits))
		_, err = v.Commit(n)
		must(t, "16.6: Commit", err)
	}
}

func newest(t *testing.T, v *vault.Vault) api.Version {
	t.Helper()
	l, err := v.Versions()
	must(t, "16.8: Versions", err)
	return l[len(l)-1]
}

func headOf(t *testing.T, v *vault.Vault) api.Head {
	t.Helper()
	h, err := v.Head()
	must(t, "16.9: Head", err)
	return h
}

// mapAt is a version's map.
func mapAt(t *testing.T, v *vault.Vault, version uint64) map[string]string {
	t.Helper()
	m := map[string]string{}
	for e, err := range v.Each(version, all) {
		must(t, "16.8: Each", err)
		m[string(e.Key)] = string(e.Value)
	}
	return m
}

// mapOf is the newest version's map.
func mapOf(t *testing.T, v *vault.Vault) map[string]string {
	t.Helper()
	return mapAt(t, v, newest(t, v).Number)
}

func listOf(m map[string]string) []api.Entry {
	var l []api.Entry
	for _, key := range slices.Sorted(maps.Keys(m)) {
		l = append(l, api.Entry{Key: []byte(key), Value: []byte(m[key])})
	}
	return l
}

func labelOf(t *testing.T, m map[string]string) api.Sum {
	t.Helper()
	label, e := node.Root(listOf(m))
	if e != api.OK {
		t.Fatal(e)
	}
	return label
}

func say(x api.Message) []byte { return codec.Message(x) }

func no(code api.Errno) []byte { return say(api.Message{Kind: api.SayNo, Code: code}) }

// read is a message's bytes, taken apart.
func read(t *testing.T, b []byte) api.Message {
	t.Helper()
	x, e := codec.ReadMessage(b)
	if e != api.OK {
		t.Fatalf("no message (%d): %.100x", e, b)
	}
	return x
}

// words are a message in words.
func words(x api.Message) string {
	s := fmt.Sprintf("%d: version %d, other %d, span %x %x %v, head %d %x, label %x, count %d, code %d, body %x, path %x", x.Kind, x.Version, x.Other,
		x.Span.Lo, x.Span.Hi, x.Span.Open, x.Head.Size, x.Head.Label[:4], x.Label[:4], x.Count, x.Code, sha256.Sum256(x.Body), x.Path)
	for _, c := range x.Changes {
		s += fmt.Sprintf("; %q %v %q %v %q", c.Key, c.Had, c.Old, c.Has, c.New)
	}
	return s
}

// question is what a mirror asks now; there must be something.
func question(t *testing.T, m *mirror.Mirror) api.Message {
	t.Helper()
	q, ok := m.Ask()
	if !ok {
		t.Fatal("18.4: nothing is asked")
	}
	return read(t, q)
}

// asks holds which question a mirror has now.
func asks(t *testing.T, what string, m *mirror.Mirror, want api.Message) {
	t.Helper()
	is(t, what, words(question(t, m)), words(want))
}

// idle holds that no round is on its way.
func idle(t *testing.T, what string, m *mirror.Mirror) {
	t.Helper()
	if q, ok := m.Ask(); ok || len(q) != 0 {
		t.Fatalf("18.4: %s: Ask = %x, %v", what, q, ok)
	}
	fails(t, "18.5: "+what+": Hear", m.Hear([]byte{api.SayHead}), api.ErrIdle)
}

func starts(t *testing.T, m *mirror.Mirror) {
	t.Helper()
	if e := m.Start(); e != api.OK {
		t.Fatalf("18.3: Start = %d", e)
	}
}

// answered lets a vault answer the question.
func answered(t *testing.T, m *mirror.Mirror, v *vault.Vault) error {
	t.Helper()
	q, ok := m.Ask()
	if !ok {
		t.Fatal("18.4: nothing is asked")
	}
	return m.Hear(mirror.Serve(v, q))
}

// until lets a vault answer, until the question is of a kind.
func until(t *testing.T, m *mirror.Mirror, v *vault.Vault, kind int) {
	t.Helper()
	for question(t, m).Kind != kind {
		must(t, "18.9: Hear", answered(t, m, v))
	}
}

var kinds = map[int]string{
	api.AskHead: "head", api.AskProof: "proof", api.AskLeaf: "leaf", api.AskExtends: "extends", api.AskDelta: "delta",
}

// rest lets a vault answer to the round's end: the questions' kinds, and what ended it.
func rest(t *testing.T, m *mirror.Mirror, v *vault.Vault) string {
	t.Helper()
	var l []string
	for {
		q, ok := m.Ask()
		if !ok {
			return strings.Join(append(l, "nil"), " ")
		}
		l = append(l, kinds[read(t, q).Kind])
		if err := m.Hear(mirror.Serve(v, q)); err != nil {
			return strings.Join(append(l, told(err)), " ")
		}
	}
}

// round is a whole one, as rest tells it.
func round(t *testing.T, m *mirror.Mirror, v *vault.Vault) string {
	t.Helper()
	starts(t, m)
	return rest(t, m, v)
}

// followed holds that a copy is what another vault is now, and that the mirror says so.
func followed(t *testing.T, what string, m *mirror.Mirror, w, v *vault.Vault) {
	t.Helper()
	own, other := newest(t, w), newest(t, v)
	if n, ok := m.Done(); n != other.Number || !ok || m.Trusted() != headOf(t, v) {
		t.Fatalf("18.7: %s: Done = %d, %v; Trusted = %v; want version %d", what, n, ok, m.Trusted(), other.Number)
	}
	if own.Tree.Label != other.Tree.Label || own.Tree.Count != other.Tree.Count || !maps.Equal(mapOf(t, w), mapOf(t, v)) {
		t.Fatalf("18.9: %s: the copy is another map", what)
	}
	if l := w.Sessions(); len(l) > 0 {
		t.Fatalf("18.7: %s: the sessions %v are open", what, l)
	}
	idle(t, what, m)
}

// following is a mirror over a new vault that has followed another one to where that is now.
func following(t *testing.T, v *vault.Vault) (*mirror.Mirror, *vault.Vault) {
	t.Helper()
	w := some(t, 9)
	m := mirror.New(w, api.Head{})
	if got := round(t, m, v); !strings.HasSuffix(got, "nil") {
		t.Fatalf("18.9: %s", got)
	}
	return m, w
}

// everything is all that a vault tells of itself, but for its proofs and its annals.
func everything(t *testing.T, v *vault.Vault) string {
	t.Helper()
	l, err := v.Versions()
	s := fmt.Sprint(l, told(err), v.Sessions())
	for _, x := range l {
		s += fmt.Sprint(mapAt(t, v, x.Number))
	}
	return s
}

// whatDiskHas is all that is on a disk, in its cache, and how often it was written.
func whatDiskHas(d *disk.Disk) string {
	s := d.Stats()
	return fmt.Sprintf("%d writes, %d flushes, pending %v, era %d, off %v, %x", s.Writes, s.Flushes, d.Pending(), d.Era(), d.Off(), sha256.Sum256(d.Image()))
}

// off takes the power away, back gives it back; what was not flushed is lost.
func off(d *disk.Disk) {
	d.Fuse(0)
	d.Flush()
}

func back(d *disk.Disk) { d.Crash(api.Crash{Torn: -1}) }

func letters(c string, n int) string { return strings.Repeat(c, n) }

// many is edits of so many keys.
func many(n int, value string) []api.Edit {
	var l []api.Edit
	for i := range n {
		l = append(l, edit(fmt.Sprintf("k%05d", i), value))
	}
	return l
}
