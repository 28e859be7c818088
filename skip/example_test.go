package skip_test

import (
	"slices"
	"strings"
	"testing"

	"witness/api"
	"witness/skip"
)

// grown is a store with the trees of the chapter's examples: of nothing, a, a b, a b c.
func grown(t *testing.T) (store, []api.Tree) {
	t.Helper()
	s := wide(t)
	l := []api.Tree{s.empty()}
	m := map[string]string{}
	for _, key := range []string{"a1", "b2", "c3"} {
		var x api.Tree
		x, m = s.puts(l[len(l)-1], m, key[:1], key[1:])
		l = append(l, x)
	}
	return s, l
}

func isFront(t *testing.T, what string, x api.Tree, count uint64, label, addr string) {
	t.Helper()
	if x.Count != count || front(x.Label) != label || addr != "" && front(x.Addr.Sum) != addr {
		t.Errorf("%s: %s, want %d keys, label %s, address %s", what, told(x), count, label, addr)
	}
}

func TestExampleTrees(t *testing.T) {
	s := wide(t)
	var e, t1, t2, t3 api.Tree
	wrote := func(what string, tree *api.Tree, call func() (api.Tree, api.Errno)) string {
		t.Helper()
		return strings.TrimSpace(fronts(s.added(what, func() {
			var errno api.Errno
			*tree, errno = call()
			answers(t, what, errno, api.OK)
		})))
	}
	put := func(x *api.Tree, key, value string) func() (api.Tree, api.Errno) {
		return func() (api.Tree, api.Errno) { return skip.Put(s.b, *x, []byte(key), []byte(value)) }
	}
	first := wrote("example 1", &e, func() (api.Tree, api.Errno) { return skip.Empty(s.b) })
	isFront(t, "example 1", e, 0, "974d575a", "27c48162")
	if first != "27c48162" {
		t.Errorf("example 1: written is %s", first)
	}
	s.unchanged("example 1", func() { s.empty() })
	if w := wrote("example 2", &t1, put(&e, "a", "1")); w != "f16ba6fa 8da75774 cec6bf2b" {
		t.Errorf("example 2: written is %s", w)
	}
	isFront(t, "example 2", t1, 1, "97ea5762", "cec6bf2b")
	if w := wrote("example 3", &t2, put(&t1, "b", "2")); strings.Count(w, " ") != 3 || !strings.HasSuffix(w, "b85a1cee") {
		t.Errorf("example 3: written is %s", w)
	}
	isFront(t, "example 3", t2, 2, "d3c0a1ba", "b85a1cee")
	if w := wrote("example 4", &t3, put(&t2, "c", "3")); strings.Count(w, " ") != 2 || !strings.HasSuffix(w, "d2bc7dfd") {
		t.Errorf("example 4: written is %s", w)
	}
	isFront(t, "example 4", t3, 3, "3e601634", "d2bc7dfd")
	if s.b.Len() != 11 {
		t.Errorf("example 4: %d blobs", s.b.Len())
	}
}

// TestExampleKids: which kids the towers of the examples have.
func TestExampleKids(t *testing.T) {
	s, l := grown(t)
	for _, c := range []struct {
		tree int
		key  string
		want []api.Kid // of the last tower of the key's way
	}{
		{0, "a", nil},
		{1, "", []api.Kid{{Level: 1, Key: []byte("a"), Count: 1}}},
		{1, "a", nil},
		{2, "", []api.Kid{{Level: 1, Key: []byte("a"), Count: 2}}},
		{2, "a", []api.Kid{{Level: 0, Key: []byte("b"), Count: 1}}},
		{3, "", []api.Kid{{Level: 3, Key: []byte("c"), Count: 1}, {Level: 1, Key: []byte("a"), Count: 2}}},
		{3, "c", nil},
	} {
		path, e := skip.Path(s.b, l[c.tree], []byte(c.key))
		if e != api.OK || len(path) == 0 {
			t.Fatalf("8.4: Path(%q) = %v, %d", c.key, path, e)
		}
		same := slices.EqualFunc(path[len(path)-1].Kids, c.want, func(x, y api.Kid) bool {
			return x.Level == y.Level && string(x.Key) == string(y.Key) && x.Count == y.Count
		})
		if !same {
			t.Errorf("8.5: tree %d: the kids of %q are %v, want %v", c.tree, c.key, path[len(path)-1].Kids, c.want)
		}
	}
}

func TestExampleSearches(t *testing.T) {
	s, l := grown(t)
	for key, want := range map[string]string{"": "", "a": "a", "aa": "a", "b": "ab", "c": "c", "zz": "c"} {
		path, e := skip.Path(s.b, l[3], []byte(key))
		got := ""
		for i, tower := range path {
			got += string(tower.Key)
			if tower.Head != (i == 0) {
				t.Errorf("example 5: Path(%q) has the head at %d", key, i)
			}
		}
		if got != want || len(path) != 1+len(want) || e != api.OK {
			t.Errorf("example 5: Path(%q) = the head and %q, %d, want %q", key, got, e, want)
		}
	}
	s.floors(l[3], "", api.Entry{}, false)
	s.floors(l[3], "aa", api.Entry{Key: []byte("a"), Value: []byte("1")}, true)
	s.floors(l[3], "zz", api.Entry{Key: []byte("c"), Value: []byte("3")}, true)
	s.gets(l[3], "aa", "", false)
	s.gets(l[2], "c", "", false)
	s.gets(l[3], "c", "3", true)
}

func TestExampleDeletes(t *testing.T) {
	s, l := grown(t)
	m := mapOf("a", "1", "b", "2", "c", "3")
	s.unchanged("example 6: without c", func() {
		x, _ := s.deletes(l[3], m, "c")
		isTree(t, "example 6: without c", x, api.OK, l[2])
	})
	x, _ := s.deletes(l[3], m, "a")
	isFront(t, "example 6: without a", x, 2, "a2bc09f4", "")
	if s.b.Len() != 12 {
		t.Errorf("example 6: %d blobs, want 12", s.b.Len())
	}
	s.unchanged("example 6: x", func() { s.deletes(l[3], m, "x") })
	s.unchanged("example 7: b has 2", func() { s.puts(l[3], m, "b", "2") })
	s.checks("example 8", l[3], api.OK)
}

// TestExampleByHand is example 9: c hangs where a should.
func TestExampleByHand(t *testing.T) {
	s, l := grown(t)
	head := planOf(mapOf("a", "1", "b", "2", "c", "3")).head
	head.Kids[1].Addr = head.Kids[0].Addr
	h := s.tree(head.Kids...)
	s.gets(h, "c", "3", true)
	s.gets(h, "", "", false)
	s.keyFails("example 9", h, "a", api.ErrTree)
	s.keyFails("example 9", h, "b", api.ErrTree)
	s.keyFails("example 9", h, "aa", api.ErrTree)
	s.checks("example 9", h, api.ErrTree)
	_, e := skip.Put(s.b, h, []byte("d"), nil)
	answers(t, "example 9: Put of d", e, api.OK)
	s.unchanged("example 9", func() { s.deleteFails("example 9", h, "c", api.ErrTree) })
	s.off()
	s.getFails("example 10", l[3], "a", api.ErrPower)
	s.checks("example 10", l[3], api.ErrPower)
	s.getFails("example 10", l[3], strings.Repeat("k", 1025), api.ErrLimit)
}
