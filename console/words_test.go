package console_test

import (
	"fmt"
	"slices"
	"strings"
	"testing"
	"unsafe"

	"witness/api"
	"witness/console"
)

// cut holds the words of a line.
func cut(t *testing.T, line string, want ...string) {
	t.Helper()
	got, e := console.Words(line)
	if e != api.OK || !slices.Equal(got, want) {
		t.Errorf("19.1: Words(%.100q) = %.200q, %d, want %.200q", line, got, e, want)
	}
}

// uncut holds that a line has no words.
func uncut(t *testing.T, line string, want api.Errno) {
	t.Helper()
	if got, e := console.Words(line); e != want || got != nil {
		t.Errorf("19.1: Words(%.100q) = %.200q, %d, want %d", line, got, e, want)
	}
}

func TestBlanks(t *testing.T) {
	for _, line := range []string{"", " ", "\t", "\r", "  \t\r \r\t", "#", "##", " #", "\t#\r", "# a \"b", "#\n a", "#\"", "# \\q", "\r# \xff"} {
		cut(t, line)
	}
	cut(t, "a b", "a", "b")
	cut(t, "a\tb", "a", "b")
	cut(t, "a\rb", "a", "b")
	cut(t, " \r\ta \t\r b\r", "a", "b")
	cut(t, "\"a\" \"b\"\t\"c\"\r\"d\"", "a", "b", "c", "d")
}

// TestOtherBytes: every byte but blanks and quotes, a newline too, is one of a word.
func TestOtherBytes(t *testing.T) {
	for b := range 256 {
		text := string([]byte{byte(b)})
		switch text {
		case " ", "\t", "\r":
			cut(t, "x"+text+"y", "x", "y")
			cut(t, text+"y", "y")
			cut(t, "x"+text, "x")
			cut(t, `"x`+text+`y"`, "x"+text+"y")
			cut(t, `"x"`+text+`y`, "x", "y")
			continue
		case "\"":
			uncut(t, "x"+text+"y", api.ErrArgs)
			uncut(t, text+"y", api.ErrArgs)
			uncut(t, "x"+text, api.ErrArgs)
			continue
		case "#":
			cut(t, "x#y z", "x#y", "z")
			cut(t, "#y z")
			cut(t, "x# z", "x#", "z")
			cut(t, `"x#y" z`, "x#y", "z")
			cut(t, `"x"#y z`, "x")
			continue
		}
		cut(t, "x"+text+"y z", "x"+text+"y", "z")
		cut(t, text+"y", text+"y")
		cut(t, "x"+text, "x"+text)
		cut(t, text, text)
		if text != "\\" {
			cut(t, `"x`+text+`y" z`, "x"+text+"y", "z")
			cut(t, `"`+text+`"`, text)
		}
		uncut(t, `"x"`+text, api.ErrArgs)
		uncut(t, `"x"`+text+`y`, api.ErrArgs)
		uncut(t, text+`"x"`, api.ErrArgs)
	}
	cut(t, "a\nb\n \n", "a\nb\n", "\n")
}

func TestComments(t *testing.T) {
	cut(t, "# a b")
	cut(t, "a # b", "a")
	cut(t, "a\t#b c", "a")
	cut(t, "a\r#", "a")
	cut(t, "a#b #c", "a#b")
	cut(t, "a## b", "a##", "b")
	cut(t, `"a"# b`, "a")
	cut(t, `"a" # b`, "a")
	cut(t, `"a"#`, "a")
	cut(t, `""#""`, "")
	cut(t, `"a#b"`, "a#b")
	cut(t, `"#"`, "#")
	cut(t, `a "#`+`" # "`, "a", "#")
	cut(t, `a # \x " "b"c`, "a")
	cut(t, "a #\nb", "a")
}

func TestQuotedWords(t *testing.T) {
	cut(t, `""`, "")
	cut(t, `"" ""`, "", "")
	cut(t, ` ""	`, "")
	cut(t, `"a"`, "a")
	cut(t, `"a b	c`+"\r\n"+`d"`, "a b\tc\r\nd")
	cut(t, `x "a" y`, "x", "a", "y")
	for _, line := range []string{
		`"`, `"a`, `a "`, `"a b`, `"" "`, `"a\"`, `"\`, `"a" "b`, `"a" b"`, `"a"b`, `"a""b"`, `""""`, `"a"""`, `a"`, `a"b"`, `a""`, `a"b`, `""a`,
		`"a"\`, `"a"\#`, `a "b"c d`, `"a#`, `"a #"b`,
	} {
		uncut(t, line, api.ErrArgs)
	}
}

func TestStrokes(t *testing.T) {
	cut(t, `"\\"`, `\`)
	cut(t, `"\""`, `"`)
	cut(t, `"\n"`, "\n")
	cut(t, `"\t"`, "\t")
	cut(t, `"\\\"\n\t"`, "\\\"\n\t")
	cut(t, `"a\\b\"c\nd\te\x41f"`, "a\\b\"c\nd\teAf")
	cut(t, `"\x00\x7f\xff\xFF\xfF\xFf\xa9\xA9\x9a\x9A"`, "\x00\x7f\xff\xff\xff\xff\xa9\xa9\x9a\x9a")
	cut(t, `"\\n\\x41"`, `\n\x41`)
	cut(t, `"\x41\x42C"`, "ABC")
	cut(t, `"\x4142"`, "A42")
	cut(t, `"\x5cn\x22"`, `\n"`)
	for b := range 256 {
		text := string([]byte{byte(b)})
		cut(t, fmt.Sprintf(`"a\x%02xb"`, b), "a"+text+"b")
		cut(t, fmt.Sprintf(`"\x%02X"`, b), text)
		isDigit := strings.Contains("0123456789abcdefABCDEF", text)
		if !isDigit {
			uncut(t, `"\x`+text+`0"`, api.ErrArgs)
			uncut(t, `"\x0`+text+`"`, api.ErrArgs)
			uncut(t, `"\x`+text+`"`, api.ErrArgs)
		}
		if !strings.Contains(`\"nt`, text) {
			uncut(t, `"\`+text+`"`, api.ErrArgs)
			uncut(t, `"a\`+text+` b" c`, api.ErrArgs)
		}
	}
	for _, line := range []string{`"\x"`, `"\x4"`, `"\x4`, `"\x`, `"\x41`, `"\X41"`, `"\N"`, `"\T"`, `"\0"`, `"\u0041"`, `"\ "`, `"\é"`, `"\`, `"\\`, `"\\\"`} {
		uncut(t, line, api.ErrArgs)
	}
	cut(t, `\`, `\`)
	cut(t, `\n \x41 \\ a\`, `\n`, `\x41`, `\\`, `a\`)
	uncut(t, `\"`, api.ErrArgs)
	uncut(t, `a\"b`, api.ErrArgs)
}

// pieces are bytes of which a line is made: whole runes, cut ones, and bytes that are none, with what follows them.
var pieces = []string{
	"é", "€", "😀", "\xc3", "\xe2", "\xe2\x82", "\xf0", "\xf0\x9f", "\xf0\x9f\x98", "\x80", "\xbf", "\xff", "\xfe", "\xc0\x80", "\xed\xa0\x80", "\xf4\x90\x80\x80", "\xef\xbf\xbd",
	"\u00a0", "\u2003", "\u0085", "\uff02", "\uff03", "\u201d", "\uff10", "\u0660", "\u0131", "\u212a", "\x00", "\v", "\f",
}

func TestBytesFrom128On(t *testing.T) {
	for _, p := range pieces {
		cut(t, p, p)
		cut(t, p+" "+p+"\t"+p+"\r"+p, p, p, p, p)
		cut(t, "a"+p+"b "+p+p, "a"+p+"b", p+p)
		cut(t, p+"# a", p+"#", "a")
		cut(t, p+" #"+p, p)
		cut(t, "#"+p)
		cut(t, `"`+p+`"`, p)
		cut(t, `"a`+p+`b" "`+p+p+`"#`+p, "a"+p+"b", p+p)
		cut(t, `"`+p+`\x41`+p+`\n`+p+`"`, p+"A"+p+"\n"+p)
		cut(t, `"`+p+`#"`, p+"#")
		uncut(t, p+`"`, api.ErrArgs)
		uncut(t, p+`"a"`, api.ErrArgs)
		uncut(t, `"a"`+p, api.ErrArgs)
		uncut(t, `"`+p, api.ErrArgs)
		uncut(t, `"\`+p+`"`, api.ErrArgs)
		uncut(t, `"\x4`+p+`"`, api.ErrArgs)
		uncut(t, `"\x`+p+`4"`, api.ErrArgs)
	}
}

// TestLongLines: a line of MaxText bytes is taken apart, one of a byte more is not, whatever stands in it.
func TestLongLines(t *testing.T) {
	const most = 65536
	cut(t, letters("a", most), letters("a", most))
	cut(t, letters(" ", most))
	cut(t, letters("#", most))
	cut(t, `"`+letters("é", most/2-1)+`"`, letters("é", most/2-1))
	cut(t, letters("a ", most/2), slices.Repeat([]string{"a"}, most/2)...)
	uncut(t, letters(`"`, most), api.ErrArgs)
	uncut(t, `"`+letters("a", most-1), api.ErrArgs)
	for _, line := range []string{letters("a", most+1), letters(" ", most+1), letters("#", most+1), letters(`"`, most+1), `a"b` + letters(" ", most), `"` + letters("a", most), letters("é", most/2) + "x"} {
		uncut(t, line, api.ErrText)
	}
	is(t, "19.5: a line that is too long", console.New().Line(letters("#", most+1)), "error 192")
	is(t, "19.5: a line that is not", console.New().Line(letters("#", most)), "")
	is(t, "19.5: a line that is not", console.New().Line(letters("x", most)), "error 190")
}

// TestWordsAreTheModels: lines of all sorts of bytes against words by expressions.
func TestWordsAreTheModels(t *testing.T) {
	r := noise(1)
	parts := append([]string{" ", "\t", "\r", "\n", "#", `"`, `"`, `"`, `\`, `\\`, `\"`, `\n`, `\t`, `\x`, `\x4`, `\x41`, `\xfG`, "a", "b", "0", "F", "x", "n", `" "`, `""`}, pieces...)
	good := 0
	for range 200000 {
		line := ""
		for range r.IntN(12) {
			line += parts[r.IntN(len(parts))]
		}
		want, we := modelWords(line)
		got, e := console.Words(line)
		if e != we || !slices.Equal(got, want) {
			t.Fatalf("19.1: Words(%q) = %q, %d, want %q, %d", line, got, e, want, we)
		}
		if e == api.OK {
			good++
		}
	}
	if good < 50000 {
		t.Errorf("of the lines only %d are good", good)
	}
}

// TestWordsAreNew: no two answers share memory, and none shares any with the line.
func TestWordsAreNew(t *testing.T) {
	line := `abc "def" "g\x41h" ijk`
	one, _ := console.Words(line)
	two, _ := console.Words(line)
	one = one[:cap(one)]
	for i := range one {
		one[i] = "other"
	}
	again, _ := console.Words(line)
	want := []string{"abc", "def", "gAh", "ijk"}
	if !slices.Equal(two, want) || !slices.Equal(again, want) {
		t.Errorf("0.4: %q and %q behind a change of another answer", two, again)
	}
	from := uintptr(unsafe.Pointer(unsafe.StringData(line)))
	for _, w := range two {
		if p := uintptr(unsafe.Pointer(unsafe.StringData(w))); p >= from && p < from+uintptr(len(line)) {
			t.Errorf("0.4: the word %s is a piece of the line", w)
		}
	}
}
