package console_test

import (
	"fmt"
	"strings"
	"testing"

	"witness/api"
	"witness/catalog"
	"witness/codec"
	"witness/disk"
)

// two is the disk of chapter 17's third example: the versions 1 and 2 are kept, the page that holds lies in segment 1.
var two = []string{
	"disk 66 128", "format 8 2", "open",
	"begin s", "put s a " + letters("0", 100), "commit s",
	"begin s", "put s b " + letters("1", 100), "commit s",
}

// audits holds an audit's answer, whoever works.
func (p *pair) audits(want string) {
	p.t.Helper()
	for _, workers := range []string{"1", "2", "3", "16"} {
		is(p.t, "19.5: audit "+workers, p.play("audit "+workers), want)
	}
}

// turned holds an audit's answer while bits of a byte of a segment are turned.
func (p *pair) turned(seg, at int, want string) {
	p.t.Helper()
	rot := fmt.Sprintf("rot %d %d 1", 2+seg*8+at/128, at%128)
	is(p.t, "19.5: "+rot, p.play(rot), "ok")
	p.audits(want)
	is(p.t, "19.5: "+rot, p.play(rot), "ok")
	p.audits("clean")
}

func TestAudit(t *testing.T) {
	p := newPair(t, "disk 66 128")
	p.audits("140/-1/0/0")
	p = newPair(t, two...)
	p.audits("clean")
	for _, x := range []row{{"audit 0", "error 170"}, {"audit 17", "error 170"}, {"audit 9223372036854775807", "error 170"}, {"audit x", "error 191"}, {"audit 0016", "clean"}} {
		is(t, "19.5: "+x[0], p.play(x[0]), x[1])
	}
	before := p.play("stats") + p.play("image")
	p.audits("clean")
	is(t, "19.5: what an audit writes", p.play("stats")+p.play("image"), before)
	p.turned(0, 5, "25/0/0/0")
	p.turned(0, 30, "130/-1/0/0 81/-1/0/1 81/-1/0/2 25/0/16/0")
	p.turned(0, 300, "130/-1/0/0 81/-1/0/1 81/-1/0/2 25/0/248/0")
	p.turned(1, 440, "141/-1/0/0")
	p.turned(1, 3, "141/-1/0/0")
	p.plays("rot 0 9 4")
	p.audits("clean")
	p.plays("rot 1 9 4")
	p.audits("140/-1/0/0") // both slots are turned now
	p.plays("rot 0 9 4")
	p.audits("clean")
}

func TestAuditWithoutPower(t *testing.T) {
	c := dead(t)
	for _, workers := range []string{"1", "3", "16"} {
		plays(t, c, row{"audit " + workers, "error 32"})
	}
	plays(t, c, row{"audit 0", "error 170"}, row{"audit 17", "error 170"}, row{"crash", "ok"}, row{"audit 1", "clean"})
}

// becomes turns the disk's bytes until they are those of an image.
func (p *pair) becomes(image []byte) {
	p.t.Helper()
	size := p.x.d.Size()
	for i, b := range p.x.d.Image() {
		if b != image[i] {
			p.plays(fmt.Sprintf("rot %d %d %d", i/size, i%size, b^image[i]))
		}
	}
	is(p.t, "19.5: the image that was made", p.play("image"), imageOf(image))
}

// made is the disk of example 3, changed by hand.
func made(t *testing.T, change func(d *disk.Disk, c *catalog.Catalog)) *pair {
	t.Helper()
	p := newPair(t, two...)
	d := p.x.d.Copy()
	c, e := catalog.Open(d)
	if e != api.OK {
		t.Fatal(e)
	}
	change(d, c)
	d.Flush()
	p.becomes(d.Image())
	return p
}

// laid writes another page in the place of the one that holds; it must be as long.
func laid(t *testing.T, d *disk.Disk, c *catalog.Catalog, page api.Page) {
	t.Helper()
	place, body := c.Super().Page, codec.Page(page)
	frame := codec.Frame(page.Marks[place.Seg].Serial, place.At, api.Frame{Kind: api.KindPage, Body: body})
	if len(frame) != place.Len {
		t.Fatalf("the page's frame has %d bytes, not %d", len(frame), place.Len)
	}
	size := d.Size()
	for i, b := range frame {
		at := 2*size + place.Seg*c.Super().Span*size + place.At + i
		old, _ := d.Read(at / size)
		d.Rot(at/size, at%size, old[at%size]^b)
	}
}

// TestFindingsByHand: findings that no single turned byte makes.
func TestFindingsByHand(t *testing.T) {
	p := made(t, func(d *disk.Disk, c *catalog.Catalog) { // version 2 has version 1's tree, and its leaf's label is another
		page := c.Page()
		page.Versions[1].Tree = page.Versions[0].Tree
		laid(t, d, c, page)
	})
	p.audits("110/-1/0/2")
	is(t, "19.5: open of what was turned", p.play("open"), "error 25")
	p = made(t, func(d *disk.Disk, c *catalog.Catalog) { // two segments have one serial
		page := c.Page()
		page.Marks[5] = api.Mark{Serial: 1, Used: 16}
		laid(t, d, c, page)
	})
	p.audits("54/-1/0/0")
	p = made(t, func(d *disk.Disk, c *catalog.Catalog) { // a blob's frame without a body
		if _, e := c.Blobs().Log().Append(api.Frame{Kind: api.KindFork}); e != api.OK {
			t.Fatal(e)
		}
		if e := c.Commit(); e != api.OK {
			t.Fatal(e)
		}
	})
	got := p.play("audit 4")
	if !strings.HasPrefix(got, "22/") || strings.Contains(got, " ") {
		t.Errorf("19.5: audit of a frame without a body: %s", got)
	}
	p.audits(got)
}
