package vault_test

import (
	"testing"

	"witness/api"
	"witness/disk"
	"witness/vault"
)

// TestExamples: the chapter's, one behind the other.
func TestExamples(t *testing.T) {
	d, e := disk.New(64, 512)
	if e != api.OK {
		t.Fatal(e)
	}
	must(t, "16.1: Format", vault.Format(d, 8, 2))
	v := open(t, d)
	a := asked{v}
	empty := labelOf(nil)
	is(t, "example 1: Versions", a.Versions(), versionWords(0, 0, empty))
	is(t, "example 1: Begin", a.Begin(), "1")
	is(t, "example 1: Put", a.Put(1, "a", "x"), "nil")
	is(t, "example 1: Get", a.Get(1, "a"), `"x" true`)
	is(t, "example 1: GetAt", a.GetAt(0, "a"), `"" false`)
	is(t, "example 1: Commit", a.Commit(1), "1")
	is(t, "example 1: Commit again", a.Commit(1), refused(api.ErrSession))

	is(t, "example 2: Begin", a.Begin(), "2")
	is(t, "example 2: Begin", a.Begin(), "3")
	is(t, "example 2: Put", a.Put(2, "a", "y"), "nil")
	is(t, "example 2: Put", a.Put(3, "a", "y"), "nil")
	is(t, "example 2: Commit", a.Commit(2), "2")
	is(t, "example 2: the second one", a.Commit(3), lost("a"))
	is(t, "example 2: Delete", a.Delete(3, "b"), "nil")
	is(t, "example 2: the second one again", a.Commit(3), lost("a"))
	is(t, "example 2: Abort", a.Abort(3), "nil")

	x := map[string]string{"a": "x"}
	y := map[string]string{"a": "y"}
	is(t, "example 3: Versions", a.Versions(), versionWords(1, 1, labelOf(x))+versionWords(2, 1, labelOf(y)))
	is(t, "example 3: GetAt", a.GetAt(0, "a"), at(0, api.ErrVersion))
	is(t, "example 3: BeginAt", a.BeginAt(1), "4")
	is(t, "example 3: Get", a.Get(4, "a"), `"x" true`)
	is(t, "example 3: Put", a.Put(4, "b", "z"), "nil")
	is(t, "example 3: Begin", a.Begin(), "5")
	is(t, "example 3: Put", a.Put(5, "c", "w"), "nil")
	is(t, "example 3: Commit", a.Commit(5), "3")
	is(t, "example 3: a stale one", a.Get(4, "a"), at(1, api.ErrStale))
	is(t, "example 3: its commit", a.Commit(4), at(1, api.ErrStale))
	is(t, "example 3: its end", a.Abort(4), "nil")

	is(t, "example 4: Begin", a.Begin(), "6")
	is(t, "example 4: no edits", a.Commit(6), "3")
	is(t, "example 4: Begin", a.Begin(), "7")
	is(t, "example 4: Delete", a.Delete(7, "nothing"), "nil")
	is(t, "example 4: Commit", a.Commit(7), "4")
	cw := labelOf(map[string]string{"a": "y", "c": "w"})
	now := versionWords(3, 2, cw) + versionWords(4, 2, cw)
	is(t, "example 4: Versions", a.Versions(), now)

	d.Fuse(0)
	is(t, "example 5: Begin", a.Begin(), "8")
	is(t, "example 5: Put", a.Put(8, "q", ""), "nil")
	is(t, "example 5: Commit", a.Commit(8), refused(api.ErrPower))
	is(t, "example 5: Get", a.Get(8, "q"), refused(api.ErrDead))
	is(t, "example 5: Close", a.Close(), "nil")
	is(t, "example 5: Close again", a.Close(), refused(api.ErrDead))
	d.Crash(api.Crash{})
	a = asked{open(t, d)}
	is(t, "example 5: Versions", a.Versions(), now)

	is(t, "example 6: Retain", a.Retain(0), refused(api.ErrWindow))
	is(t, "example 6: Retain", a.Retain(1), "nil")
	is(t, "example 6: Versions", a.Versions(), versionWords(4, 2, cw))

	for range 16 {
		a.Begin()
	}
	is(t, "example 7: Begin", a.Begin(), refused(api.ErrSessions))
	is(t, "example 7: BeginAt", a.BeginAt(3), at(3, api.ErrVersion))
}
