package console_test

import (
	"strings"
	"testing"

	"witness/console"
)

// pair is a console and its model, which play the same lines.
type pair struct {
	t     *testing.T
	c     *console.Console
	x     *model
	lines []string
	said  []string
}

func newPair(t *testing.T, lines ...string) *pair {
	t.Helper()
	p := &pair{t: t, c: console.New(), x: &model{}}
	for _, line := range lines {
		if got := p.play(line); isError(got) {
			t.Fatalf("%s: %s", line, got)
		}
	}
	return p
}

// play is the answer of both to a line.
func (p *pair) play(line string) string {
	p.t.Helper()
	got, want := p.c.Line(line), p.x.line(line)
	p.lines, p.said = append(p.lines, line), append(p.said, got)
	if got != want {
		tail := p.lines[max(0, len(p.lines)-40):]
		p.t.Fatalf("19.5: %.200q\nanswers %.400q\nwant    %.400q\nbehind\n%.4000q", line, got, want, strings.Join(tail, "\n"))
	}
	return got
}

func (p *pair) plays(lines ...string) {
	p.t.Helper()
	for _, line := range lines {
		p.play(line)
	}
}

// does holds that Do answers what the console has answered, line by line, if the script is not too long.
func (p *pair) does() {
	p.t.Helper()
	script := strings.Join(p.lines, "\n")
	want := ""
	for _, answer := range p.said {
		if answer != "" {
			want += answer + "\n"
		}
	}
	if len(script) > 65536 {
		want = "error 192\n"
	}
	is(p.t, "19.5: Do", console.Do(script), want)
}

// all plays what tells of everything.
func (p *pair) all() {
	p.t.Helper()
	p.plays("stats", "image", "audit 3", "versions", "head", "trusted", `range s "" - 100`, `range t "" - 100`, "copy a", "copy b")
	for _, v := range []string{"0", "1", "2", "3", "4", "5"} {
		p.plays("root "+v, `scan `+v+` "" - 100`, "shown "+v, `prove `+v+` "" -`, "diff "+v+" 1", "diff 2 "+v)
	}
}
