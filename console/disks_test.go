package console_test

import (
	"crypto/sha256"
	"fmt"
	"strings"
	"testing"

	"witness/console"
)

// unlike are sizes of a disk that cannot be, or that is too great here.
var unlike = []string{
	"257 4096", "8193 128", "4097 256", "4096 4096", "65536 128", "65536 256", "513 2048", // more than 2^20 bytes
	"0 128", "65537 128", "1 0", "1 64", "1 127", "1 129", "1 192", "3 99", "1 8192", // none of disk.New's
	"9223372036854775807 128", "9223372036854775807 9223372036854775807", "1 9223372036854775807", "4611686018427387904 4", "36028797018963968 512", "72057594037927936 256",
}

// gone holds that vault, mirror and names are gone.
func gone(t *testing.T, c *console.Console) {
	t.Helper()
	plays(t, c, row{"versions", "error 194"}, row{"close", "error 194"}, row{"get s a", "error 194"}, row{"begin s", "error 194"}, row{"copy a", "error 194"}, row{"trusted", "error 194"}, row{"sync", "error 194"})
}

// nameless holds that there is a vault without names and mirror.
func nameless(t *testing.T, c *console.Console) {
	t.Helper()
	plays(t, c, row{"get s a", "error 160"}, row{"commit s", "error 160"}, row{"copy a", "error 194"}, row{"trusted", "error 194"}, row{"sync", "error 194"}, row{"lie 0 0", "error 194"})
}

func imageOf(b []byte) string { return fmt.Sprintf("%x", sha256.Sum256(b)) }

func TestSizesOfDisks(t *testing.T) {
	for _, size := range []string{"256 4096", "8192 128", "4096 256", "512 2048", "1 128", "1 4096", "0001 0128"} {
		c := mirrored(t, "begin s")
		plays(t, c, row{"disk " + size, "ok"}, row{"stats", "writes 0 flushes 0 pending 0"})
		gone(t, c)
		plays(t, c, row{"audit 1", "140/-1/0/0"}, row{"open", "error 140"})
	}
	c := mirrored(t, "begin s")
	before := everything(c)
	for _, size := range unlike {
		plays(t, c, row{"disk " + size, "error 30"}, row{"disk x " + size, "error 191"})
	}
	is(t, "19.5: what a disk that cannot be changes", everything(c), before)
	c = console.New()
	plays(t, c, row{"disk 0 128", "error 30"}, row{"stats", "error 193"})
}

// TestDiskAnew: another disk has nothing of the older one.
func TestDiskAnew(t *testing.T) {
	c := mirrored(t, "begin s", "put s z 1", "fuse 2")
	plays(t, c,
		row{"commit s", "error 32"},
		row{"disk 3 128", "ok"},
		row{"stats", "writes 0 flushes 0 pending 0"},
		row{"image", imageOf(make([]byte, 384))},
	)
	gone(t, c)
	plays(t, c,
		row{"rot 0 0 1", "ok"},
		row{"open", "error 25"},
		row{"disk 130 512", "ok"},
		row{"open", "error 140"}, // another one is not rotten
		row{"format 8 3", "ok"},  // and its power is on
		row{"open", "ok 0"},
	)
	plays(t, c, row{"rot 0 0 0", "ok"}, row{"disk 0 0", "error 30"}, row{"open", "error 25"})
}

func TestFormat(t *testing.T) {
	for _, x := range []row{
		{"format 1 3", "error 50"}, {"format 1025 3", "error 50"}, {"format 0 0", "error 50"}, {"format 9223372036854775807 3", "error 50"},
		{"format 65 3", "error 30"}, {"format 128 3", "error 30"},
		{"format 8 0", "error 142"}, {"format 8 65", "error 142"}, {"format 8 9223372036854775807", "error 142"},
	} {
		c := mirrored(t, "begin s")
		stats, image := c.Line("stats"), c.Line("image")
		plays(t, c, x)
		gone(t, c)
		plays(t, c, row{"stats", stats}, row{"image", image}, row{"open", "ok 1"}, row{"versions", "0:0 1:2"})
		nameless(t, c)
	}
	for _, x := range []string{"format 8 1", "format 2 64", "format 64 3", "format 008 03"} {
		c := mirrored(t, "begin s")
		plays(t, c, row{x, "ok"})
		gone(t, c)
		plays(t, c, row{"open", "ok 0"}, row{"versions", "0:0"})
		nameless(t, c)
	}
	c := mirrored(t, "begin s")
	plays(t, c, row{"format 8", "error 191"}, row{"format 8 x", "error 191"}, row{"get s a", `"1"`}, row{"copy a", `"1"`})
}

// TestFormatWithoutPower: it fails at each of its writes and flushes; vault, mirror and names are gone all the same.
func TestFormatWithoutPower(t *testing.T) {
	for n := range 30 {
		p := newPair(t, "disk 130 512", "format 8 3", "open", "begin s", "put s a 1", "commit s", "begin s", "mirror 66 128 8 2", "sync", fmt.Sprint("fuse ", n))
		got := p.play("format 8 2")
		gone(t, p.c)
		if got == "ok" {
			if n < 8 {
				t.Errorf("format takes %d writes and flushes", n)
			}
			return
		}
		is(t, "19.5: format without power", got, "error 32")
		p.plays("stats", "image", "open", "audit 1", "fuse 100", "format 8 3", "crash 11111 1 20", "stats", "image", "open", "versions", "audit 1")
		p.does()
	}
	t.Error("format never ends well")
}

func TestFuseAndPower(t *testing.T) {
	for n := range 40 {
		p := newPair(t, "disk 130 512", "format 8 3", "open", "begin s", "put s a 1", "commit s", "begin s", "put s b 2", "begin t", "mirror 66 128 8 2", "sync", "fuse 1", fmt.Sprint("fuse ", n))
		got := p.play("commit s")
		if got == "2" {
			if n < 4 {
				t.Errorf("commit takes %d writes and flushes", n)
			}
			return
		}
		is(t, "19.5: commit without power", got, "error 32")
		plays(t, p.c,
			row{"commit s", "error 163"}, row{"get s a", "error 163"}, row{"get nobody a", "error 160"}, row{"versions", "error 163"}, row{"begin u", "error 163"},
			row{"root 1", "error 163"}, row{"prove 1 a b", "error 163"}, row{"shown 1", "error 163"}, row{"grown 1 " + letters("0", 64), "error 163"},
			row{"head", "error 163"}, row{"diff 0 1", "error 163"}, row{"retain 1", "error 163"}, row{"compact", "error 163"}, row{"abort t", "error 163"},
			row{"audit 1", "error 32"}, row{"audit 0", "error 170"}, row{"open", "error 32"}, row{"sync", "error 182"}, row{"copy a", `"1"`}, row{"fuse 100", "ok"}, row{"open", "error 32"},
			row{"versions", "error 163"}, row{"get t a", "error 163"}, row{"copy a", `"1"`}, // the vault, the names and the mirror stayed
		)
		p.plays("stats", "image")
		plays(t, p.c, row{"close", "ok"})
		gone(t, p.c)
	}
	t.Error("commit never ends well")
}

// TestCrashes: behind each number of writes of a commit, with each choice of what is kept and what is torn.
func TestCrashes(t *testing.T) {
	t.Parallel()
	lines := []string{"disk 66 512", "format 8 3", "open", "begin s", "put s a 1", "commit s", "begin s", "put s b 2"}
	ends := map[string]int{}
	for n := range 20 {
		p := newPair(t, append(lines, fmt.Sprint("fuse ", n))...)
		if p.play("commit s") == "2" {
			break
		}
		pending := len(p.x.d.Pending())
		var crashes []string
		for bits := range 1 << min(pending, 4) {
			keep := ""
			for i := range pending {
				keep += fmt.Sprint(bits >> i & 1)
			}
			crashes = append(crashes, `crash "`+keep+`"`)
		}
		ones := letters("1", pending)
		crashes = append(crashes, "crash", `crash ""`, "crash 1"+ones, "crash "+ones+"0011", `crash "" 0 9223372036854775807`, `crash "`+ones+`" 0 0`)
		for torn := range pending + 1 {
			for _, at := range []int{0, 1, 40, 256, 511, 512, 513} {
				crashes = append(crashes, fmt.Sprintf(`crash "%s" %d %d`, ones, torn, at), fmt.Sprintf(`crash "" %d %d`, torn, at))
			}
		}
		for _, crash := range crashes {
			p := newPair(t, append(lines, fmt.Sprint("fuse ", n))...)
			p.plays("commit s", "stats", "crash x", "crash 1 1", `crash "" 1 1 1`)
			if got := p.play(crash); got != "ok" {
				t.Fatalf("19.5: %s: %s", crash, got)
			}
			p.plays("stats", "image", "versions", "get s a", "audit 1")
			ends[p.play("open")]++
			p.plays("versions", `scan 1 "" - 9`, `scan 2 "" - 9`, "get s a", "begin s", "put s c 3", "commit s", "stats")
		}
	}
	if ends["ok 1"] < 20 || ends["ok 2"] < 3 || len(ends) != 2 {
		t.Errorf("19.5: open behind crashes: %v", ends)
	}
}

// TestCrashWithPower: what a change that was refused has left in the cache is kept, torn or lost likewise; the vault is dead behind it.
func TestCrashWithPower(t *testing.T) {
	for _, crash := range []string{"crash", "crash 1", "crash 0101010101", "crash 11111111111111111111", "crash 1111 2 77", "crash 0000 9 1"} {
		p := newPair(t, "disk 34 128", "format 8 2", "open", "begin s")
		for i := range 20 {
			p.plays(fmt.Sprintf("put s k%d %s", i, letters("v", 60)))
		}
		is(t, "19.5: a commit that is too large", p.play("commit s"), "error 51")
		if got := p.play("stats"); strings.HasSuffix(got, "pending 0") {
			t.Errorf("nothing is pending: %s", got)
		}
		is(t, "19.5: "+crash, p.play(crash), "ok")
		if got := p.play("stats"); !strings.HasSuffix(got, "pending 0") {
			t.Errorf("19.5: %s leaves %s", crash, got)
		}
		is(t, "19.5: the vault behind "+crash, p.play("versions"), "error 163")
		p.plays("image", "get s k1", "commit s", "open", "versions", "get s k1", "audit 1")
		p.does()
	}
}

func TestRot(t *testing.T) {
	c := after(t, "disk 3 128")
	b := make([]byte, 384)
	for _, x := range [][3]int{{0, 0, 1}, {1, 5, 255}, {2, 127, 128}, {0, 0, 2}, {1, 5, 255}, {1, 6, 0}, {2, 0, 254}} {
		b[x[0]*128+x[1]] ^= byte(x[2])
		plays(t, c, row{fmt.Sprintf("rot %d %d %d", x[0], x[1], x[2]), "ok"}, row{"image", imageOf(b)}, row{"stats", "writes 0 flushes 0 pending 0"})
	}
	c = mirrored(t, "begin s")
	before := everything(c)
	plays(t, c,
		row{"rot 130 0 1", "error 31"}, row{"rot 0 512 1", "error 31"}, row{"rot 130 512 0", "error 31"}, row{"rot 9223372036854775807 0 1", "error 31"}, row{"rot 0 9223372036854775807 1", "error 31"},
		row{"rot 0 0 256", "error 191"}, row{"rot 999 0 256", "error 191"},
	)
	is(t, "19.5: what a rot that fails changes", everything(c), before)
	does(t, c, "close")
	plays(t, c, row{"open", "ok 1"}) // the disk does not count as rotten
}

// TestRottenDisks: the disk counts as rotten, whatever was turned, until a format goes well or another one is made.
func TestRottenDisks(t *testing.T) {
	for _, mask := range []string{"0", "1", "255"} {
		for _, cure := range []string{"format 8 2", "disk 130 512"} {
			c := mirrored(t, "begin s")
			plays(t, c, row{"rot 129 511 " + mask, "ok"}) // behind the last segment: nobody reads it
			gone(t, c)
			plays(t, c,
				row{"open", "error 25"}, row{"audit 2", "clean"}, row{"rot 129 511 " + mask, "ok"}, row{"open", "error 25"}, row{"crash", "ok"}, row{"open", "error 25"},
				row{"format 1 2", "error 50"}, row{"open", "error 25"}, row{"disk 1 1", "error 30"}, row{"open", "error 25"},
				row{"fuse 1", "ok"}, row{"format 8 2", "error 32"}, row{"open", "error 25"}, row{"crash", "ok"}, row{"open", "error 25"},
				row{cure, "ok"},
			)
			gone(t, c)
			if cure == "disk 130 512" {
				plays(t, c, row{"open", "error 140"}, row{"format 8 2", "ok"})
			}
			plays(t, c, row{"open", "ok 0"}, row{"versions", "0:0"})
			nameless(t, c)
		}
	}
}

// TestRotWithoutPower: it needs none, and reaches what was written and not flushed.
func TestRotWithoutPower(t *testing.T) {
	p := newPair(t, "disk 130 512", "format 8 3", "open", "begin s", "put s a 1", "fuse 2")
	p.plays("commit s", "stats", "image", "rot 2 100 7", "image", "crash 11", "image", "audit 1", "open", "crash 1", "rot 1 1 1", "open")
	p.does()
}

func TestStatsAndImage(t *testing.T) {
	c := after(t, "disk 66 128")
	zeros := imageOf(make([]byte, 66*128))
	plays(t, c,
		row{"stats", "writes 0 flushes 0 pending 0"}, row{"image", zeros},
		row{"fuse 0", "ok"}, row{"format 8 2", "error 32"}, row{"stats", "writes 0 flushes 0 pending 0"}, row{"crash", "ok"},
		row{"fuse 1", "ok"}, row{"format 8 2", "error 32"}, row{"stats", "writes 1 flushes 0 pending 1"}, row{"image", zeros}, row{"crash", "ok"}, row{"stats", "writes 1 flushes 0 pending 0"},
		row{"fuse 2", "ok"}, row{"format 8 2", "error 32"}, row{"stats", "writes 2 flushes 1 pending 0"}, row{"image", zeros}, row{"crash", "ok"},
		row{"fuse 4", "ok"}, row{"format 8 2", "error 32"}, row{"stats", "writes 4 flushes 3 pending 0"}, row{"crash", "ok"},
		row{"format 8 2", "ok"},
	)
	formatted := c.Line("stats")
	if !strings.HasSuffix(formatted, "pending 0") || c.Line("image") == zeros {
		t.Errorf("19.5: behind format: %s", formatted)
	}
	plays(t, c, row{"open", "ok 0"}, row{"begin s", "ok"}, row{"put s a 1", "ok"}, row{"stats", formatted})
	image := c.Line("image")
	does(t, c, "commit s")
	if c.Line("stats") == formatted || c.Line("image") == image {
		t.Error("19.5: a commit is not seen")
	}
}
