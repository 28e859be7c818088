package console_test

import (
	"encoding/hex"
	"fmt"
	"maps"
	"slices"
	"strings"
	"testing"

	"witness/annals"
	"witness/api"
	"witness/digest"
	"witness/node"
)

// rootOf is a map's root label, by the definition.
func rootOf(t *testing.T, m map[string]string) api.Sum {
	t.Helper()
	var l []api.Entry
	for _, key := range slices.Sorted(maps.Keys(m)) {
		l = append(l, api.Entry{Key: []byte(key), Value: []byte(m[key])})
	}
	label, e := node.Root(l)
	if e != api.OK {
		t.Fatal(e)
	}
	return label
}

// history is maps, one a version, and the lines that make them.
func history(t *testing.T) ([]map[string]string, []string) {
	t.Helper()
	maps := []map[string]string{
		{},
		{"a": "1", "b b": "x\ny", "": "0"},
		{"a": "2", "c": "", "": "0"},
		{"a": "2", "c": "", "": "0"},
		{"\xff": "9"},
		{"a": "1", "b b": "x\ny", "": "0"},
		{"a": "1", "b b": "x", "-": "\x00"},
	}
	lines := []string{"disk 256 512", "format 8 64", "open"}
	for i := range maps[1:] {
		lines = append(lines, "begin s", "del s nothing")
		for key := range maps[i] {
			lines = append(lines, "del s "+word(key))
		}
		for key, value := range maps[i+1] {
			lines = append(lines, "put s "+word(key)+" "+word(value))
		}
		lines = append(lines, "commit s")
	}
	return maps, lines
}

// leavesOf are the annals' leaves of these maps.
func leavesOf(t *testing.T, l []map[string]string) []api.Leaf {
	t.Helper()
	var leaves []api.Leaf
	for i, m := range l {
		leaves = append(leaves, api.Leaf{Version: uint64(i), Label: rootOf(t, m)})
	}
	return leaves
}

func TestVersionsAndRoots(t *testing.T) {
	l, lines := history(t)
	c := after(t, lines...)
	plays(t, c, row{"versions", "0:0 1:3 2:3 3:3 4:1 5:3 6:3"})
	for i, m := range l {
		plays(t, c, row{fmt.Sprint("root ", i), digest.Hex(rootOf(t, m))})
		for _, key := range []string{"", "a", "b b", "c", "-", "\xff", "nothing"} {
			want := "none"
			if value, ok := m[key]; ok {
				want = written([]byte(value))
			}
			plays(t, c, row{fmt.Sprintf("at %d %s", i, word(key)), want})
		}
	}
	plays(t, c, row{"retain 2", "ok"}, row{"versions", "5:3 6:3"}, row{"root 5", digest.Hex(rootOf(t, l[5]))})
}

// TestVersionsThatAreNotKept: in each command that takes one: what is gone, and what is not there yet.
func TestVersionsThatAreNotKept(t *testing.T) {
	_, lines := history(t)
	c := after(t, append(lines, "retain 2", "begin s", "put s q 1")...)
	for _, v := range []string{"0", "4", "7", "8", "4611686018427387904", "9223372036854775808", "18446744073709551615"} {
		want := at(v, api.ErrVersion)
		plays(t, c,
			row{"begin s " + v, want}, row{"root " + v, want}, row{"at " + v + " a", want}, row{"at " + v + " " + letters("k", 1025), want}, row{"scan " + v + " a - 9", want}, row{"scan " + v + " b a 0", want},
			row{"diff " + v + " 6", want}, row{"diff 5 " + v, want}, row{"diff " + v + " 99", want}, row{"diff " + v + " " + v, want},
			row{"prove " + v + " a -", want}, row{"prove " + v + " b a", want}, row{"shown " + v, want},
		)
	}
	plays(t, c, row{"diff 99 4", at(99, api.ErrVersion)}, row{"get s q", `"1"`}, row{"versions", "5:3 6:3"})
}

func TestDiffs(t *testing.T) {
	l, lines := history(t)
	c := after(t, lines...)
	for i := range l {
		plays(t, c, row{fmt.Sprintf("diff %d %d", i, i), "same"})
	}
	plays(t, c,
		row{"diff 0 1", `+ "" = "0", + "a" = "1", + "b b" = "x\ny"`},
		row{"diff 1 0", `- "", - "a", - "b b"`},
		row{"diff 1 2", `! "a" = "2", - "b b", + "c" = ""`},
		row{"diff 2 1", `! "a" = "1", + "b b" = "x\ny", - "c"`},
		row{"diff 2 3", "same"}, row{"diff 1 5", "same"}, row{"diff 5 1", "same"},
		row{"diff 3 4", `- "", - "a", - "c", + "\xff" = "9"`},
		row{"diff 5 6", `- "", + "-" = "\x00", ! "b b" = "x"`},
		row{"diff 0 4", `+ "\xff" = "9"`}, row{"diff 4 0", `- "\xff"`},
	)
}

// within is how many keys of a map lie ahead of a span and in it.
func within(m map[string]string, lo, hi string) (rank, entries int) {
	for key := range m {
		switch {
		case key < lo:
			rank++
		case hi == "-" || key < hi:
			entries++
		}
	}
	return rank, entries
}

// TestProofs: what prove tells, and what check says of the same proof, of each version and many spans.
func TestProofs(t *testing.T) {
	l, lines := history(t)
	p := newPair(t, lines...)
	bounds := []string{"", "-", "a", "a\x00", "b", "b b", "c", "d", "\xff", "\xff\x00"}
	for i, m := range l {
		root := digest.Hex(rootOf(t, m))
		for _, lo := range bounds {
			for _, hi := range bounds {
				arguments := word(lo) + " " + word(hi)
				if hi != "-" && lo >= hi {
					is(t, "19.5: prove of a span that is not fit", p.play(fmt.Sprintf("prove %d %s", i, arguments)), "error 92")
					is(t, "19.5: check of a span that is not fit", p.play("check "+root+" "+arguments+" 0003"), "error 92")
					continue
				}
				proof, err := p.x.v.ProveAt(uint64(i), spanned(lo, hi))
				if err != nil {
					t.Fatal(err)
				}
				rank, entries := within(m, lo, hi)
				want := fmt.Sprintf("ok %d %s %d %d", len(proof), digest.Hex(digest.Of(proof))[:16], rank, entries)
				is(t, "19.5: prove", p.play(fmt.Sprintf("prove %d %s", i, arguments)), want)
				want = fmt.Sprintf("ok %d %d %d", rank, len(m), entries)
				digits := hex.EncodeToString(proof)
				is(t, "19.5: check", p.play("check "+root+" "+arguments+" "+digits), want)
				is(t, "19.5: check of capital letters", p.play("check "+root+" "+arguments+" "+strings.ToUpper(digits)), want)
				is(t, "19.5: check of a label that is another", p.play("check "+letters("0", 64)+" "+arguments+" "+digits), "error 110")
				is(t, "19.5: check of half a byte less", p.play("check "+root+" "+arguments+" "+digits[1:]), "error 191")
				is(t, "19.5: check of a byte more", p.play("check "+root+" "+arguments+" "+digits+"03"), "error 114")
				p.plays("check "+root+" "+arguments+" "+digits[:len(digits)-2], "check "+root+" "+arguments+" "+digits[2:])
			}
		}
	}
	p.plays("prove 1 "+letters("k", 1025)+" -", "prove 1 "+letters("k", 1026)+" -", "prove 1 a "+letters("k", 1026))
}

func TestCheck(t *testing.T) {
	r0 := digest.Hex(rootOf(t, nil))
	c := opened(t)
	for _, x := range scenes(t) { // it needs nothing
		plays(t, x, row{"check " + r0 + ` "" - 0003`, "ok 0 0 0"})
	}
	plays(t, c,
		row{"root 0", r0},
		row{"check " + r0 + ` a b 0003`, "ok 0 0 0"},
		row{"check " + r0 + ` "" - ""`, "error 20"}, // no bytes are a proof that ends too early
		row{"check " + r0 + ` "" - 00`, "error 114"},
		row{"check " + r0 + ` "" - 000303`, "error 114"},
		row{"check " + r0 + ` "" - 0103`, "error 110"},
		row{"check " + r0 + ` "" - 000100`, "error 117"},
		row{"check " + r0 + ` "" - 0007`, "error 24"},
		row{"check " + r0 + ` b a ""`, "error 92"}, row{"check " + r0 + " " + letters("k", 1026) + ` - ""`, "error 80"}, row{"check " + r0 + ` a a 0003`, "error 92"},
		row{"check " + strings.ToUpper(r0) + ` "" - 0003`, "error 191"}, row{"check " + r0[1:] + ` "" - 0003`, "error 191"}, row{"check " + r0 + `0 "" - 0003`, "error 191"},
		row{"check " + r0 + ` b a 000`, "error 191"}, row{"check " + r0 + ` b a 0x03`, "error 191"},
		row{"check " + r0 + ` "" - "0003"`, "ok 0 0 0"}, row{`check "` + r0 + `" "" "-" 0003`, "ok 0 0 0"},
	)
}

// TestProofsThatAreTooLong: many keys with one long value are little on the disk, and much in a proof.
func TestProofsThatAreTooLong(t *testing.T) {
	t.Parallel()
	lines := []string{"disk 256 4096", "format 64 2", "open", "begin s"}
	for i := range 70 {
		lines = append(lines, fmt.Sprintf("put s k%02d %s", i, letters("v", 61000)))
	}
	p := newPair(t, append(lines, "commit s", "mirror 256 4096 64 2")...)
	is(t, "19.5: prove of all", p.play(`prove 1 "" -`), "error 100")
	if got := p.play("prove 1 k10 k11"); !strings.HasPrefix(got, "ok 6") || !strings.HasSuffix(got, " 10 1") {
		t.Errorf("19.5: prove of one: %s", got)
	}
	is(t, "19.5: sync in halves", p.play("sync"), "ok 1")
	is(t, "19.5: copy", p.play("copy k69"), `"`+letters("v", 61000)+`"`)
	if got := p.play(`scan 1 "" - 70`); len(got) != 70*(61000+len(`"k00" = "", `))-2 {
		t.Errorf("19.5: scan has %d bytes", len(got))
	}
}

// TestAnnals: head, shown and grown of each version, at each moment.
func TestAnnals(t *testing.T) {
	l, lines := history(t)
	leaves := leavesOf(t, l)
	p := newPair(t, lines[:3]...)
	rest := lines[3:]
	heads := []api.Head{annals.Over(nil)}
	for size := 1; size <= len(leaves); size++ {
		head := annals.Over(leaves[:size])
		heads = append(heads, head)
		is(t, "19.5: head", p.play("head"), fmt.Sprintf("%d %x", head.Size, head.Label))
		for i := range size {
			is(t, "19.5: shown", p.play(fmt.Sprint("shown ", i)), fmt.Sprint("ok ", lengthOfPath(i, size)))
		}
		for old, h := range heads {
			want := fmt.Sprint("ok ", lengthOfSteps(old, size, true))
			is(t, fmt.Sprintf("19.5: grown from %d to %d", old, size), p.play(fmt.Sprintf("grown %d %x", old, h.Label)), want)
			other := heads[(old+1)%len(heads)].Label
			is(t, "19.5: grown from another label", p.play(fmt.Sprintf("grown %d %x", old, other)), "error 132")
			is(t, "19.5: grown from no label", p.play(fmt.Sprintf("grown %d %s", old, letters("0", 64))), "error 132")
		}
		is(t, "19.5: grown from a greater one", p.play(fmt.Sprintf("grown %d %x", size+1, head.Label)), "error 130")
		is(t, "19.5: grown from a greater one", p.play(fmt.Sprintf("grown 18446744073709551615 %x", head.Label)), "error 130")
		is(t, "19.5: shown of a version that is not there yet", p.play(fmt.Sprint("shown ", size)), at(size, api.ErrVersion))
		for len(rest) > 0 {
			line := rest[0]
			p.play(line)
			rest = rest[1:]
			if line == "commit s" {
				break
			}
		}
	}
	p.plays("retain 1", "shown 6", "shown 5", fmt.Sprintf("grown 3 %x", heads[3].Label), fmt.Sprintf("grown 3 %X", heads[3].Label), fmt.Sprintf("grown 3 %x", heads[3].Label[1:]))
	is(t, "19.5: head behind retain", p.play("head"), fmt.Sprintf("7 %x", heads[7].Label))
}

// cutOf is where so many leaves are cut in two.
func cutOf(n int) int {
	k := 1
	for 2*k < n {
		k *= 2
	}
	return k
}

// lengthOfPath is how many labels a leaf's path has.
func lengthOfPath(i, n int) int {
	if n == 1 {
		return 0
	}
	if k := cutOf(n); i < k {
		return lengthOfPath(i, k) + 1
	} else {
		return lengthOfPath(i-k, n-k) + 1
	}
}

// lengthOfSteps is how many labels the path from m leaves to n has.
func lengthOfSteps(m, n int, whole bool) int {
	switch k := cutOf(n); {
	case m == 0 || m == n && whole:
		return 0
	case m == n:
		return 1
	case m <= k:
		return lengthOfSteps(m, k, whole) + 1
	default:
		return lengthOfSteps(m-k, n-k, false) + 1
	}
}
