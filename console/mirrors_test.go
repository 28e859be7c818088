package console_test

import (
	"fmt"
	"testing"

	"witness/annals"
	"witness/api"
	"witness/mirror"
)

var nobody = "0 " + letters("0", 64) // what a mirror trusts that trusts nothing yet

func TestMirror(t *testing.T) {
	for _, size := range []string{"256 4096 64 2", "8192 128 16 2", "130 512 8 2", "66 128 8 64", "034 0128 08 01"} {
		c := mirrored(t, "begin s", "put s c 3")
		plays(t, c,
			row{"mirror " + size, "ok"}, row{"trusted", nobody}, row{"copy a", "none"}, row{"copy \"\"", "none"}, row{"copy " + letters("k", 1025), "error 80"}, // another one, that trusts nothing yet
			row{"get s c", `"3"`}, row{"versions", "0:0 1:2"}, // the vault and the names stay
			row{"sync", "ok 1"}, row{"copy a", `"1"`}, row{"copy b", `"2"`}, row{"copy c", "none"}, row{"trusted", c.Line("head")},
		)
	}
}

// TestMirrorFails: the first error ends it, and then there is no mirror, the older one neither; all else stays.
func TestMirrorFails(t *testing.T) {
	var rows []row
	for _, size := range unlike {
		rows = append(rows, row{"mirror " + size + " 8 2", "error 30"}, row{"mirror " + size + " 1 0", "error 30"})
	}
	rows = append(rows,
		row{"mirror 130 512 1 2", "error 50"}, row{"mirror 130 512 1025 0", "error 50"}, row{"mirror 130 512 9223372036854775807 2", "error 50"}, row{"mirror 130 512 65 2", "error 30"}, row{"mirror 1 128 8 2", "error 30"},
		row{"mirror 130 512 8 0", "error 142"}, row{"mirror 130 512 8 65", "error 142"}, row{"mirror 130 512 8 9223372036854775807", "error 142"},
		row{"mirror 8192 128 2 2", "error 51"},
	)
	for _, x := range rows {
		c := mirrored(t, "begin s", "put s c 3")
		plays(t, c,
			x, row{"sync", "error 194"}, row{"lie 0 1", "error 194"}, row{"lie 0 0", "error 194"}, row{"copy a", "error 194"}, row{"trusted", "error 194"},
			row{"get s c", `"3"`}, row{"versions", "0:0 1:2"}, row{"audit 1", "clean"},
			row{"mirror 66 128 8 2", "ok"}, row{"trusted", nobody}, row{"sync", "ok 1"},
		)
	}
	c := mirrored(t)
	head := c.Line("head")
	plays(t, c, row{"mirror 130 512 8", "error 191"}, row{"mirror 130 512 8 x", "error 191"}, row{"trusted", head}, row{"copy a", `"1"`})
	c = after(t, "disk 130 512", "format 8 2")
	plays(t, c, row{"mirror 0 0 0 0", "error 194"}, row{"mirror x 0 0 0", "error 191"})
}

// TestMirrorsLife: which commands take the mirror away, and which leave it.
func TestMirrorsLife(t *testing.T) {
	for line, stays := range map[string]bool{
		"disk 130 512": false, "format 8 2": false, "format 0 0": false, "open": false, "close": false, "rot 0 0 1": false,
		"disk 0 0": true, "rot 999 0 1": true, "crash": true, "fuse 9": true, "retain 1": true, "compact": true, "begin s": true, "commit s": true, "audit 1": true, "sync": true, "lie 0 1": true, "lie 3 255": true, "open now": true, "nothing": true,
	} {
		c := mirrored(t)
		c.Line(line)
		want := "error 194"
		if stays {
			want = `"1"`
		}
		plays(t, c, row{"copy a", want})
	}
}

func TestSync(t *testing.T) {
	c := opened(t, "mirror 130 512 8 2")
	plays(t, c, row{"sync now", "error 191"}, row{"sync", "ok 0"}, row{"trusted", c.Line("head")}, row{"copy a", "none"}, row{"sync", "ok 0"})
	does(t, c, "begin s", "put s a 1", "commit s")
	old := c.Line("trusted")
	plays(t, c, row{"copy a", "none"}, row{"trusted", old}, row{"sync", "ok 1"}, row{"copy a", `"1"`}, row{"trusted", c.Line("head")}, row{"sync", "ok 1"})
	does(t, c, "begin s", "put s b 2", "del s a", "commit s", "begin s", `put s "" "\x00"`, "commit s", "begin s", "put s c 3", "commit s")
	plays(t, c, row{"sync", "ok 4"}, row{"copy a", "none"}, row{"copy b", `"2"`}, row{`copy ""`, `"\x00"`}, row{"copy c", `"3"`}, row{"trusted", c.Line("head")})
	does(t, c, "begin s", "put s d 4", "commit s", "begin s", "put s e 5", "commit s", "retain 1") // what changed since cannot be told any more
	plays(t, c, row{"versions", "6:5"}, row{"sync", "ok 6"}, row{"copy e", `"5"`}, row{"copy d", `"4"`}, row{"trusted", c.Line("head")})
	does(t, c, "close", "open")
	plays(t, c, row{"sync", "error 194"}, row{"mirror 130 512 8 2", "ok"}, row{"copy e", "none"}, row{"sync", "ok 6"}, row{"copy e", `"5"`}, row{"trusted", c.Line("head")})
	before := c.Line("stats") + c.Line("image")
	plays(t, c, row{"sync", "ok 6"})
	is(t, "19.5: what sync writes on the vault's disk", c.Line("stats")+c.Line("image"), before)
}

// TestSyncOfADeadVault: it answers nothing any more; the copy stays.
func TestSyncOfADeadVault(t *testing.T) {
	c := dead(t)
	head := c.Line("trusted")
	plays(t, c, row{"sync", "error 182"}, row{"lie 7 0", "error 182"}, row{"lie 0 1", "error 180"}, row{"copy a", `"1"`}, row{"trusted", head}, row{"crash", "ok"}, row{"sync", "error 182"}, row{"copy a", `"1"`}, row{"mirror 66 128 8 2", "ok"}, row{"trusted", nobody}, row{"copy a", "none"}, row{"sync", "error 182"})
}

// TestSyncIntoAFullDisk: the copy's disk has no room: what the mirror's vault says is told.
func TestSyncIntoAFullDisk(t *testing.T) {
	c := opened(t, "begin s", "put s a "+letters("v", 2000), "commit s", "mirror 34 128 8 2")
	plays(t, c, row{"sync", "error 51"}, row{"copy a", "none"}, row{"trusted", nobody}, row{"sync", "error 51"})
	does(t, c, "begin s", "del s a", "put s b 1", "commit s")
	plays(t, c, row{"sync", "ok 2"}, row{"copy b", `"1"`})
}

// answersOf are the answers of an honest round: how long each is.
func answersOf(t *testing.T, p *pair) []int {
	t.Helper()
	var l []int
	if e := p.x.m.Start(); e != api.OK {
		t.Fatal(e)
	}
	for {
		q, ok := p.x.m.Ask()
		if !ok {
			return l
		}
		b := mirror.Serve(p.x.v, q)
		l = append(l, len(b))
		if err := p.x.m.Hear(b); err != nil {
			t.Fatal(err)
		}
	}
}

// liars are consoles ahead of a round of each sort: the first one, by a delta, by a proof, with nothing new.
var liars = map[string][]string{
	"first": {"begin s", "put s a 1", "put s b 2", "commit s", "mirror 66 128 8 2"},
	"delta": {"begin s", "put s a 1", "commit s", "mirror 66 128 8 2", "sync", "begin s", "put s b 2", "commit s"},
	"proof": {"begin s", "put s a 1", "commit s", "mirror 66 128 8 2", "sync", "begin s", "put s b 2", "commit s", "retain 1"},
	"same":  {"begin s", "put s a 1", "commit s", "mirror 66 128 8 2", "sync"},
	"empty": {"mirror 66 128 8 2"},
}

// TestLies: bits turned at each byte of each answer: the round ends, and behind it the copy is as it was, or what the annals show.
func TestLies(t *testing.T) {
	for what, lines := range liars {
		t.Run(what, func(t *testing.T) {
			t.Parallel()
			lines := append([]string{"disk 66 128", "format 8 3", "open"}, lines...)
			longest := 0
			for _, n := range answersOf(t, newPair(t, lines...)) {
				longest = max(longest, n)
			}
			ends := map[string]int{}
			for place := range longest + 3 {
				for _, bits := range []int{1, 2, 128, 255} {
					p := newPair(t, lines...)
					before := p.play("copy a") + p.play("copy b") + p.play("trusted")
					got := p.play(fmt.Sprintf("lie %d %d", place, bits))
					behind := p.play("copy a") + p.play("copy b") + p.play("trusted")
					ends[got]++
					if isError(got) {
						is(t, fmt.Sprintf("19.5: the copy behind lie %d %d", place, bits), behind, before)
					}
					if !isError(p.play("sync")) { // the next round is a round of its own
						is(t, "19.5: what an honest round trusts", p.play("trusted"), p.play("head"))
					}
					p.plays("copy a", "copy b")
				}
			}
			if ends["error 180"] == 0 || what != "empty" && ends["error 181"] == 0 {
				t.Errorf("19.5: lies end so: %v", ends)
			}
		})
	}
}

// TestLiesWithoutBits: a mask of 0 turns nothing, whatever the byte.
func TestLiesWithoutBits(t *testing.T) {
	for what, lines := range liars {
		for _, place := range []string{"0", "1", "77", "18446744073709551615"} {
			one, two := opened(t, lines...), opened(t, lines...)
			is(t, "19.5: a lie without bits, "+what, two.Line("lie "+place+" 0"), one.Line("sync"))
			is(t, "19.5: what it leaves, "+what, everything(two), everything(one))
		}
	}
}

// TestLiesBeyondTheAnswer: the byte's number is taken modulo each answer's length.
func TestLiesBeyondTheAnswer(t *testing.T) {
	for _, place := range []string{"1000", "65536", "9223372036854775807", "9223372036854775808", "18446744073709551615", "18446744073709551614", "18446744073709551556"} {
		for _, lines := range liars {
			p := newPair(t, append([]string{"disk 66 128", "format 8 3", "open"}, lines...)...)
			p.plays("lie "+place+" 16", "copy a", "copy b", "trusted", "sync", "copy a", "copy b", "trusted", "lie "+place+" 256", "lie "+place+"0 1")
		}
	}
	// the byte behind an answer's last one is its first one again
	c := opened(t, "mirror 66 128 8 2")
	n := len(headMessage())
	plays(t, c, row{"lie 0 1", "error 180"}, row{fmt.Sprintf("lie %d 1", n), "error 180"}, row{fmt.Sprintf("lie %d 1", 7*n), "error 180"}, row{"trusted", nobody})
}

// headMessage is what an honest vault with version 0 alone says to AskHead.
func headMessage() []byte {
	p := &model{}
	for _, line := range []string{"disk 66 128", "format 8 3", "open"} {
		p.line(line)
	}
	return mirror.Serve(p.v, []byte{api.AskHead})
}

func TestTrusted(t *testing.T) {
	l, lines := history(t)
	c := after(t, append(lines, "mirror 256 512 8 2")...)
	plays(t, c, row{"trusted", nobody}, row{"sync", "ok 6"})
	head := annals.Over(leavesOf(t, l))
	plays(t, c, row{"trusted", fmt.Sprintf("7 %x", head.Label)}, row{"trusted now", "error 191"}, row{"copy", "error 191"}, row{"copy a b", "error 191"})
	for _, key := range []string{"", "a", "b b", "c", "-", "\xff"} {
		want := "none"
		if value, ok := l[6][key]; ok {
			want = written([]byte(value))
		}
		plays(t, c, row{"copy " + word(key), want})
	}
	plays(t, c, row{"trusted", fmt.Sprintf("7 %x", head.Label)})
}

// TestMirrorOfItsOwn: the mirror's disk is a second one: what happens to the first is not seen there.
func TestMirrorOfItsOwn(t *testing.T) {
	c := mirrored(t)
	stats := c.Line("stats")
	does(t, c, "mirror 256 128 8 2", "sync", "fuse 0")
	plays(t, c, row{"stats", stats}, row{"sync", "ok 1"}, row{"copy a", `"1"`}, row{"crash", "ok"}, row{"copy a", `"1"`})
}
