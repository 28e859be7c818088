package console_test

import (
	"fmt"
	"strings"
	"testing"

	"witness/console"
)

func TestOpen(t *testing.T) {
	c := after(t, "disk 130 512")
	plays(t, c, row{"open", "error 140"}, row{"versions", "error 194"}, row{"format 8 3", "ok"}, row{"versions", "error 194"}, row{"open", "ok 0"}, row{"versions", "0:0"})
	for n := 1; n < 6; n++ {
		does(t, c, "begin s", fmt.Sprintf("put s k%d v", n), "commit s")
		plays(t, c, row{"open", fmt.Sprint("ok ", n)}, row{"open", fmt.Sprint("ok ", n)})
	}
	plays(t, c, row{"versions", "3:3 4:4 5:5"})
	c = mirrored(t, "begin s", "put s a 9")
	plays(t, c, row{"open", "ok 1"}, row{"versions", "0:0 1:2"})
	nameless(t, c)
	for range 16 { // the sessions of the older vault are none of this one's
		plays(t, c, row{"begin s", "ok"})
	}
	plays(t, c, row{"begin s", "error 161"})
}

// TestOpenFails: where it fails the vault there was stays, with its mirror and its names.
func TestOpenFails(t *testing.T) {
	c := mirrored(t, "begin s", "put s z 1", "fuse 2")
	plays(t, c,
		row{"commit s", "error 32"}, row{"open", "error 32"}, row{"versions", "error 163"}, row{"get s z", "error 163"}, row{"get t z", "error 160"}, row{"copy a", `"1"`}, row{"sync", "error 182"},
		row{"crash", "ok"}, row{"versions", "error 163"}, row{"get s z", "error 163"}, row{"copy a", `"1"`},
		row{"open", "ok 1"}, row{"versions", "0:0 1:2"},
	)
	nameless(t, c)
	c = after(t, "disk 1 128")
	plays(t, c, row{"open", "error 140"}, row{"versions", "error 194"})
}

func TestClose(t *testing.T) {
	c := mirrored(t, "begin s")
	stats, image := c.Line("stats"), c.Line("image")
	plays(t, c, row{"close now", "error 191"}, row{"get s a", `"1"`}, row{"close", "ok"}, row{"stats", stats}, row{"image", image}, row{"audit 1", "clean"})
	gone(t, c)
	plays(t, c, row{"open", "ok 1"}, row{"versions", "0:0 1:2"})
	nameless(t, c)
	c = dead(t)
	plays(t, c, row{"close", "ok"}) // a dead one can be closed
	gone(t, c)
	plays(t, c, row{"open", "error 32"})
	gone(t, c)
}

// TestNames: a name is any word, and stands for the session that begin gave it last.
func TestNames(t *testing.T) {
	names := []string{`""`, "s", `"a name"`, "begin", "commit", "-", `"\x00\xff"`, "é", "0", "s#", `"\"\n"`, letters("n", 2000)}
	c := opened(t)
	for i, name := range names {
		plays(t, c, row{"begin " + name, "ok"}, row{fmt.Sprintf("put %s k %d", name, i), "ok"})
	}
	for i, name := range names {
		plays(t, c, row{"get " + name + " k", fmt.Sprintf(`"%d"`, i)})
	}
	plays(t, c, row{`get "s" k`, `"1"`}, row{`get "\x73" k`, `"1"`}, row{"get S k", "error 160"}, row{`get " s" k`, "error 160"}, row{`get "s " k`, "error 160"})
	for _, name := range names[1:] {
		plays(t, c, row{"abort " + name, "ok"}, row{"get " + name + " k", "error 160"}, row{"abort " + name, "error 160"}, row{"commit " + name, "error 160"})
	}
	plays(t, c, row{`get "" k`, `"0"`}, row{`commit ""`, "1"}, row{`get "" k`, "error 160"})
}

// TestNamesAnew: a name that begin gives anew leaves its older session open, without a name.
func TestNamesAnew(t *testing.T) {
	c := opened(t)
	for i := range 16 {
		plays(t, c, row{"begin s", "ok"}, row{"get s a", "none"}, row{fmt.Sprintf("put s a %d", i), "ok"})
	}
	plays(t, c,
		row{"begin s", "error 161"}, row{"begin t", "error 161"}, row{"begin s 0", "error 161"}, row{"begin s 7", "version 7: error 143"},
		row{"get s a", `"15"`}, row{"get t a", "error 160"}, // what failed has given no name
		row{"commit s", "1"}, row{"get s a", "error 160"}, row{"begin s", "ok"}, row{"get s a", `"15"`}, row{"begin t", "error 161"},
		row{"abort s", "ok"}, row{"begin t", "ok"}, row{"begin t", "error 161"},
	)
}

func TestBegin(t *testing.T) {
	c := opened(t, "begin s", "put s a 1", "commit s", "begin s", "put s a 2", "commit s")
	plays(t, c,
		row{"begin s 0", "ok"}, row{"get s a", "none"},
		row{"begin s 1", "ok"}, row{"get s a", `"1"`},
		row{"begin s 2", "ok"}, row{"get s a", `"2"`},
		row{"begin s", "ok"}, row{"get s a", `"2"`}, row{"put s b 3", "ok"},
		row{"begin s 3", "version 3: error 143"}, row{"get s b", `"3"`},
		row{"begin s 18446744073709551615", "version 18446744073709551615: error 143"}, row{"get s b", `"3"`},
		row{"begin s x", "error 191"}, row{"get s b", `"3"`},
		row{"retain 1", "ok"}, row{"begin t 1", "version 1: error 143"}, row{"begin t 002", "ok"}, row{"get t a", `"2"`},
	)
}

func TestEdits(t *testing.T) {
	c := opened(t, "begin s")
	plays(t, c,
		row{"get s a", "none"}, row{"put s a 1", "ok"}, row{"get s a", `"1"`}, row{`put s a ""`, "ok"}, row{"get s a", `""`}, row{"del s a", "ok"}, row{"get s a", "none"}, row{"del s a", "ok"},
		row{`put s "" 7`, "ok"}, row{`get s ""`, `"7"`}, row{`get s "\x00"`, "none"}, row{`del s ""`, "ok"}, row{`get s ""`, "none"},
		row{"put s - minus", "ok"}, row{"get s -", `"minus"`}, row{"at 0 -", "none"},
		row{"put s none none", "ok"}, row{"get s none", `"none"`},
		row{"commit s", "1"}, row{"at 1 -", `"minus"`}, row{"at 1 none", `"none"`}, row{"versions", "0:0 1:2"},
		row{"put s " + letters("k", 1025) + " 1", "error 160"},
		row{"begin s", "ok"}, row{"put s " + letters("k", 1025) + " 1", "error 80"}, row{"put s " + letters("k", 1024) + " 1", "ok"}, row{"get s " + letters("k", 1024), `"1"`}, row{"get s " + letters("k", 1025), "error 80"},
	)
}

// TestManyEdits: a session takes MaxBatch unlike keys.
func TestManyEdits(t *testing.T) {
	c := opened(t, "begin s")
	for i := range 4096 {
		if got := c.Line(fmt.Sprintf("put s %d 1", i)); got != "ok" {
			t.Fatalf("19.5: put %d: %s", i, got)
		}
	}
	plays(t, c, row{"put s x 1", "error 80"}, row{"del s x", "error 80"}, row{"put s 7 2", "ok"}, row{"get s 7", `"2"`}, row{"get s x", "none"})
	l := strings.Split(c.Line(`range s "" - 4096`), ", ")
	if len(l) != 4096 || l[0] != `"0" = "1"` || l[4095] != `"999" = "1"` {
		t.Errorf("19.5: range of 4096 entries has %d", len(l))
	}
	l = strings.Split(c.Line(`range s "" - 4095`), ", ")
	if len(l) != 4096 || l[4095] != "more" {
		t.Errorf("19.5: range of 4095 entries, and more, has %d", len(l))
	}
}

// ranged holds what range and scan answer alike: of a session on version 1 and of that version.
func ranged(t *testing.T, c *console.Console, arguments, want string) {
	t.Helper()
	plays(t, c, row{"range s " + arguments, want}, row{"scan 1 " + arguments, want})
}

func TestRanges(t *testing.T) {
	c := opened(t, "begin s", `put s "" 0`, "put s - 1", "put s a 2", `put s "b b" "x\ny"`, `put s "\xff" ""`, "commit s", "begin s")
	all := `"" = "0", "-" = "1", "a" = "2", "b b" = "x\ny", "\xff" = ""`
	ranged(t, c, `"" - 9`, all)
	ranged(t, c, `"" "-" 9`, all) // a - in quotes is Open too
	ranged(t, c, `"" "\x2d" 9`, all)
	ranged(t, c, `"" - 5`, all)
	ranged(t, c, `"" - 4096`, all)
	ranged(t, c, `"" - 4`, `"" = "0", "-" = "1", "a" = "2", "b b" = "x\ny", more`)
	ranged(t, c, `"" - 1`, `"" = "0", more`)
	ranged(t, c, `- - 9`, `"-" = "1", "a" = "2", "b b" = "x\ny", "\xff" = ""`) // LO as - is a key
	ranged(t, c, `"-" - 1`, `"-" = "1", more`)
	ranged(t, c, `- a 9`, `"-" = "1"`)
	ranged(t, c, `- a 1`, `"-" = "1"`)
	ranged(t, c, `- b 1`, `"-" = "1", more`)
	ranged(t, c, `a b 9`, `"a" = "2"`)
	ranged(t, c, `a "a\x00" 9`, `"a" = "2"`)
	ranged(t, c, `b c 9`, `"b b" = "x\ny"`)
	ranged(t, c, `"b\x20b" - 1`, `"b b" = "x\ny", more`)
	ranged(t, c, `c d 9`, "empty")
	ranged(t, c, `"\xff\x00" - 1`, "empty")
	ranged(t, c, `"-\x00" a 1`, "empty")
	ranged(t, c, `a a 9`, "error 92")
	ranged(t, c, `b a 9`, "error 92")
	ranged(t, c, `"" "" 9`, "error 92")
	ranged(t, c, `a "" 9`, "error 92")
	ranged(t, c, `"" - 0`, "error 91")
	ranged(t, c, `"" - 4097`, "error 91")
	ranged(t, c, `"" - 9223372036854775807`, "error 91")
	ranged(t, c, `b a 0`, "error 92")
	ranged(t, c, letters("k", 1025)+" - 1", `"\xff" = ""`)
	ranged(t, c, letters("k", 1026)+" - 1", "error 80")
	ranged(t, c, "a "+letters("k", 1025)+" 1", `"a" = "2", more`)
	ranged(t, c, "a "+letters("k", 1026)+" 0", "error 80")
	ranged(t, c, `"" - x`, "error 191")
	plays(t, c,
		row{"del s a", "ok"}, row{"put s c 4", "ok"}, row{"put s - 5", "ok"},
		row{`range s "" - 9`, `"" = "0", "-" = "5", "b b" = "x\ny", "c" = "4", "\xff" = ""`}, row{`scan 1 "" - 9`, all},
		row{"range t a - 0", "error 160"}, row{"scan 2 a - 0", "version 2: error 143"}, row{`scan 0 "" - 9`, "empty"},
	)
}

func TestCommit(t *testing.T) {
	c := opened(t, "begin s", "put s a 1", "commit s")
	plays(t, c,
		row{"commit s", "error 160"}, row{"abort s", "error 160"}, row{"put s a 1", "error 160"}, row{"del s a", "error 160"}, row{"get s a", "error 160"}, row{`range s "" - 9`, "error 160"},
		row{"begin s", "ok"}, row{"commit s", "1"}, row{"commit s", "error 160"}, // without edits: its base's number, and no new version
		row{"begin s 0", "ok"}, row{"commit s", "0"}, row{"versions", "0:0 1:1"},
		row{"begin s", "ok"}, row{"del s nothing", "ok"}, row{"commit s", "2"}, row{"versions", "0:0 1:1 2:1"},
		row{"begin s", "ok"}, row{"begin t", "ok"}, row{"begin u", "ok"}, row{"put s b 2", "ok"}, row{"put s a 2", "ok"}, row{"put t b 3", "ok"}, row{"put t a 3", "ok"}, row{"put u c 3", "ok"},
		row{"commit s", "3"}, row{"commit t", `key "a": error 162`}, row{"get t b", `"3"`}, row{"commit t", `key "a": error 162`}, row{"commit u", "4"},
		row{"abort t", "ok"}, row{"commit t", "error 160"}, row{`scan 4 "" - 9`, `"a" = "2", "b" = "2", "c" = "3"`},
	)
	c = after(t, "disk 34 128", "format 8 2", "open", "begin s")
	for i := range 20 {
		does(t, c, fmt.Sprintf("put s k%d %s", i, letters("v", 60)))
	}
	plays(t, c, row{"commit s", "error 51"}, row{"get s k1", `"` + letters("v", 60) + `"`}, row{"versions", "0:0"}, row{"commit s", "error 51"}, row{"abort s", "ok"}, row{"get s k1", "error 160"})
}

func TestRetain(t *testing.T) {
	c := opened(t)
	for i := range 3 {
		does(t, c, "begin s", fmt.Sprint("put s a ", i), "commit s")
	}
	plays(t, c,
		row{"versions", "1:1 2:1 3:1"}, row{"retain 0", "error 142"}, row{"retain 65", "error 142"}, row{"retain 9223372036854775807", "error 142"}, row{"versions", "1:1 2:1 3:1"},
		row{"begin s 1", "ok"}, row{"begin t 2", "ok"}, row{"put s a x", "ok"},
		row{"retain 64", "ok"}, row{"versions", "1:1 2:1 3:1"},
		row{"retain 2", "ok"}, row{"versions", "2:1 3:1"}, row{"get s a", "version 1: error 164"}, row{"commit s", "version 1: error 164"}, row{"get t a", `"1"`},
		row{"retain 1", "ok"}, row{"versions", "3:1"}, row{"get t a", "version 2: error 164"}, row{"begin t", "ok"}, row{"get t a", `"2"`}, row{"abort s", "ok"}, row{"get s a", "error 160"},
		row{"retain 3", "ok"}, row{"versions", "3:1"}, row{"open", "ok 3"}, row{"versions", "3:1"},
	)
}

func TestCompact(t *testing.T) {
	lines := []string{"disk 130 128", "format 8 1", "open"}
	p := newPair(t, lines...)
	is(t, "19.5: compact of nothing", p.play("compact"), "error 150")
	for i := range 8 {
		p.plays("begin s", fmt.Sprintf("put s a %s", letters(fmt.Sprint(i), 200)), "commit s")
	}
	if got := p.play("compact"); got < "2" || len(got) != 1 {
		t.Errorf("19.5: compact: %s", got)
	}
	plays(t, p.c, row{"at 8 a", `"` + letters("7", 200) + `"`}, row{"audit 2", "clean"}, row{"compact 1", "error 191"})
	for range 8 {
		if p.play("compact") == "error 150" {
			return
		}
	}
	t.Error("19.5: compact goes on")
}
