package console_test

import (
	"fmt"
	"math/rand/v2"
	"strconv"
	"strings"
	"testing"

	"witness/api"
	"witness/console"
)

func noise(seed uint64) *rand.Rand { return rand.New(rand.NewPCG(seed, 19)) }

func is(t *testing.T, what, got, want string) {
	t.Helper()
	if got != want {
		t.Errorf("%s: %.300q\nwant %.300q", what, got, want)
	}
}

// row is a line, and its answer.
type row [2]string

// plays holds a console's answers to lines, one behind the other.
func plays(t *testing.T, c *console.Console, rows ...row) {
	t.Helper()
	for _, x := range rows {
		if got := c.Line(x[0]); got != x[1] {
			t.Errorf("19.5: %.200q\nanswers %.300q\nwant    %.300q", x[0], got, x[1])
		}
	}
}

// does plays lines of which only the errors count: there must be none.
func does(t *testing.T, c *console.Console, lines ...string) {
	t.Helper()
	for _, line := range lines {
		if got := c.Line(line); isError(got) {
			t.Fatalf("19.5: %.200s: %s", line, got)
		}
	}
}

func isError(answer string) bool {
	return strings.HasPrefix(answer, "error ") || strings.HasPrefix(answer, "version ") || strings.HasPrefix(answer, "key ")
}

// after is a console that has played lines; none of them may fail.
func after(t *testing.T, lines ...string) *console.Console {
	t.Helper()
	c := console.New()
	does(t, c, lines...)
	return c
}

// opened is a console with an open vault, that has played lines behind that.
func opened(t *testing.T, lines ...string) *console.Console {
	t.Helper()
	return after(t, append([]string{"disk 130 512", "format 8 3", "open"}, lines...)...)
}

// mirrored is a console with a mirror that has followed version 1 of its vault.
func mirrored(t *testing.T, lines ...string) *console.Console {
	t.Helper()
	return opened(t, append([]string{"begin s", "put s a 1", "put s b 2", "commit s", "mirror 130 512 8 2", "sync"}, lines...)...)
}

// refused is how an Errno is told.
func refused(e api.Errno) string { return "error " + strconv.Itoa(int(e)) }

// at is how a version's error is told.
func at(number any, e api.Errno) string { return fmt.Sprint("version ", number, ": ", refused(e)) }

// word is any bytes as a word of a line.
func word(text string) string {
	var b strings.Builder
	for i := range len(text) {
		fmt.Fprintf(&b, "\\x%02X", text[i])
	}
	return `"` + b.String() + `"`
}

func letters(c string, n int) string { return strings.Repeat(c, n) }

// everything is what a console tells of itself, by commands that change nothing.
func everything(c *console.Console) string {
	var l []string
	for _, line := range []string{
		"stats", "image", "audit 2", "versions", "head", "root 0", "scan 0 \"\" - 9", "scan 1 \"\" - 9", "scan 2 \"\" - 9", "shown 1", "diff 0 1",
		"range s \"\" - 9", "range t \"\" - 9", "range \"\" \"\" - 9", "trusted", "copy a", "copy b",
	} {
		l = append(l, line+": "+c.Line(line))
	}
	return strings.Join(l, "\n")
}
