package vault_test

import (
	"fmt"
	"testing"

	"witness/api"
	"witness/blobs"
	"witness/digest"
)

// TestDigestsAreWeak: else what follows tells nothing.
func TestDigestsAreWeak(t *testing.T) {
	sums := map[api.Sum]int{}
	for i := range 10000 {
		sums[digest.Of([]byte(fmt.Sprint(i)))]++
	}
	if len(sums) != 256 {
		t.Fatalf("there are %d digests", len(sums))
	}
}

// alikes are so many values with one digest.
func alikes(n int) []string {
	var l []string
	want := blobs.Digest(api.KindValue, nil)
	for i := 0; len(l) < n; i++ {
		if value := fmt.Sprint("value ", i); blobs.Digest(api.KindValue, []byte(value)) == want {
			l = append(l, value)
		}
	}
	return l
}

// TestTwins: where a value can have no address any more the commit is refused, and all is as it was.
func TestTwins(t *testing.T) {
	d, v := store(t, 40, 8192, 2)
	p := &pair{t, asked{v}, newModel(2)}
	p.commits(edit("a", "1"))
	p.commits(edit("b", "2"))
	p.both("16.2: Begin", answers.Begin)
	n := p.m.begun
	l := alikes(300)
	for i, value := range l {
		p.both("16.4: Put", func(a answers) string { return a.Put(n, fmt.Sprintf("k%03d", i), value) })
	}
	before := whatHolds(t, d)
	for range 2 {
		is(t, "16.6: Commit", p.v.Commit(n), refused(api.ErrTwins))
		is(t, "16.6: the store behind ErrTwins", whatHolds(t, d), before)
		p.alike("behind ErrTwins")
	}
	for i := 200; i < len(l); i++ {
		p.both("16.4: Delete", func(a answers) string { return a.Delete(n, fmt.Sprintf("k%03d", i)) })
	}
	p.says("16.6: Commit of less", "3", func(a answers) string { return a.Commit(n) })
	p.alike("behind Commit")
	p.v, p.m = asked{open(t, d)}, p.m.opened()
	p.alike("opened again")
}
