package console_test

import (
	"fmt"
	"math/rand/v2"
	"strings"
	"sync"
	"testing"

	"witness/api"
	"witness/console"
)

func TestScripts(t *testing.T) {
	for _, x := range []row{
		{"", ""}, {"\n", ""}, {"\n\n\n\n", ""}, {"\r\n\r\n", ""}, {" \n\t\n#\n# x\n", ""},
		{"stats", "error 193\n"}, {"stats\n", "error 193\n"}, {"\nstats\n\n", "error 193\n"}, {"stats\n\nversions", "error 193\nerror 194\n"}, {"stats\r\nversions\r\n", "error 193\nerror 194\n"}, {"stats\rnow", "error 191\n"},
		{"disk 130 512\nformat 8 3\nopen\nbegin s\nput s a 1\ncommit s\nversions\n", "ok\nok\nok 0\nok\nok\n1\n0:0 1:1\n"},
		{"disk 130 512\r\nformat 8 3\r\nopen\r\nbegin s\r\nput s a 1\r\nget s a\r", "ok\nok\nok 0\nok\nok\n\"1\"\n"},
		{"disk 130 512\nformat 8 3\nopen\nbegin s\nput s \"a\nb\" 1\nget s \"a", "ok\nok\nok 0\nok\nerror 191\nerror 191\nerror 191\n"}, // no word goes over a line's end
		{"\"", "error 191\n"}, {"\n\"\n\"\"\n", "error 191\nerror 190\n"}, {"x\x00y\n\xff\n\x00", "error 190\nerror 190\nerror 190\n"}, {"\v\n\f\n\u0085\n\u2028", "error 190\nerror 190\nerror 190\nerror 190\n"},
	} {
		is(t, fmt.Sprintf("19.5: Do(%q)", x[0]), console.Do(x[0]), x[1])
	}
}

// TestLongScripts: one of MaxText bytes is played, one of a byte more is not.
func TestLongScripts(t *testing.T) {
	const most = api.MaxText
	for _, x := range []row{
		{letters("#", most), ""}, {letters("\n", most), ""}, {letters(" ", most), ""}, {letters("x", most), "error 190\n"}, {letters("x\n", most/2), letters("error 190\n", most/2)},
		{letters("\n", most-5) + "stats", "error 193\n"}, {"stats" + letters("\n", most-5), "error 193\n"},
		{letters("#", most+1), "error 192\n"}, {letters("\n", most+1), "error 192\n"}, {letters("x\n", most/2) + "\n", "error 192\n"}, {"stats\n" + letters("\n", most), "error 192\n"}, {letters("x", 3*most), "error 192\n"},
	} {
		is(t, fmt.Sprintf("19.5: Do of %d bytes", len(x[0])), console.Do(x[0]), x[1])
	}
}

// say is how many lines of a script say something, by the words of 19.6.
func say(script string) int {
	if len(script) > api.MaxText {
		return 1
	}
	n := 0
	for _, line := range strings.Split(script, "\n") {
		if line = strings.TrimLeft(line, " \t\r"); line != "" && line[0] != '#' {
			n++
		}
	}
	return n
}

// counted holds that a script has as many answers as it has lines that say something, none of them empty; and that it is answered alike again.
func counted(t *testing.T, script string) {
	t.Helper()
	got := console.Do(script)
	lines := strings.SplitAfter(got, "\n")
	if lines[len(lines)-1] != "" || len(lines)-1 != say(script) || strings.Contains(got, "\n\n") || strings.HasPrefix(got, "\n") {
		t.Fatalf("19.6: Do(%.2000q) has %d lines, want %d: %.2000q", script, len(lines)-1, say(script), got)
	}
	for _, b := range []byte(got) {
		if b != '\n' && (b < 32 || b > 126) {
			t.Fatalf("19.5: Do(%.2000q) has the byte %d", script, b)
		}
	}
	if again := console.Do(script); again != got {
		t.Fatalf("19.6: Do(%.2000q) is %.500q, and then %.500q", script, got, again)
	}
}

// anyBytes is a script of bytes by chance.
func anyBytes(r *rand.Rand) string {
	parts := []string{
		"\n", "\n", "\n", " ", " ", "\t", "\r", "#", `"`, `\`, "a", "s", "1", "0", "-", "\xff", "é", "\x00", "\n\n", "\r\n", `"\x41"`, `""`,
		"\ndisk 66 128\n", "\nformat 8 2\n", "\nopen\n", "\nbegin s\n", "\nput s a 1\n", "\nput s \"\\n\" \"\\xff\"\n", "\ncommit s\n", "\nversions\n", "\nscan 1 \"\" - 9\n", "\nmirror 66 128 8 2\n", "\nsync\n", "\nlie 9 1\n", "\nfuse 9\n",
		"\ncrash\n", "\nrot 3 3 3\n", "\naudit 2\n", "get ", "put ", "range ", "disk", "\nget s \"\\n\"\n",
	}
	var s strings.Builder
	for range r.IntN(120) {
		if r.IntN(10) == 0 {
			s.WriteByte(byte(r.IntN(256)))
		} else {
			s.WriteString(parts[r.IntN(len(parts))])
		}
	}
	return s.String()
}

func TestAnyBytes(t *testing.T) {
	r := noise(7)
	for range 1500 {
		counted(t, anyBytes(r))
	}
	for _, script := range []string{"", letters("\n", api.MaxText+1), letters("x\n", 30000), letters("\"\n", 30000), letters("\xff\n", 30000), letters("\r\n", 30000), letters("#\n", 30000), letters("disk 1 128\n", 5000)} {
		counted(t, script)
	}
}

// FuzzDo lets a fuzzer choose the bytes.
func FuzzDo(f *testing.F) {
	f.Add("disk 66 128\nformat 8 2\nopen\nbegin s\nput s a \"\\n\"\ncommit s\nscan 1 \"\" - 9")
	f.Fuzz(func(t *testing.T, script string) { counted(t, script) })
}

// TestTwoConsoles: two that play in turns know nothing of one another, and what was played earlier is not seen.
func TestTwoConsoles(t *testing.T) {
	one, two := newLife(t, 101), newLife(t, 202)
	for range 300 { // each is held against its own model
		one.play(one.line())
		two.play(two.line())
		one.mends()
		two.mends()
	}
	one.does()
	two.does()
	a, b := opened(t), console.New()
	plays(t, b, row{"stats", "error 193"}, row{"versions", "error 194"})
	does(t, a, "begin s", "put s a 1")
	does(t, b, "disk 66 128", "format 8 2", "open")
	plays(t, b, row{"get s a", "error 160"}, row{"begin s", "ok"}, row{"get s a", "none"}, row{"put s a 2", "ok"})
	plays(t, a, row{"get s a", `"1"`}, row{"commit s", "1"})
	plays(t, b, row{"get s a", `"2"`}, row{"versions", "0:0"})
}

// TestAtOneTime: many scripts at one time are answered as one is.
func TestAtOneTime(t *testing.T) {
	l := newLife(t, 303)
	for range 150 {
		l.play(l.line())
		l.mends()
	}
	script := strings.Join(l.lines, "\n")
	want := console.Do(script)
	var group sync.WaitGroup
	for range 8 {
		group.Go(func() {
			if console.Do(script) != want {
				t.Error("19.6: a script is answered otherwise beside others")
			}
		})
	}
	group.Wait()
}
