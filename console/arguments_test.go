package console_test

import (
	"slices"
	"strings"
	"testing"

	"witness/api"
	"witness/console"
)

// some is a word that an argument of a name may be, anywhere.
func some(name string) string {
	switch name {
	case "S":
		return "s"
	case "LO":
		return "a"
	case "HI":
		return "-"
	case "SECTORS":
		return "66"
	case "SIZE":
		return "128"
	case "SPAN":
		return "8"
	case "HEX":
		return letters("0", 64)
	case "PROOFHEX":
		return "0003"
	case "KEEP":
		return "10"
	}
	return "1"
}

// line is a command with arguments, of which one may be another word.
func (u usage) line(place int, other string) string {
	words := []string{u.name}
	for i, name := range u.arguments() {
		if i == place {
			words = append(words, other)
		} else {
			words = append(words, some(name))
		}
	}
	return strings.Join(words, " ")
}

// scenes are consoles in every state that a command may need, or lack.
func scenes(t *testing.T) map[string]*console.Console {
	t.Helper()
	return map[string]*console.Console{
		"nothing":   console.New(),
		"a disk":    after(t, "disk 130 512"),
		"a store":   after(t, "disk 130 512", "format 8 3"),
		"a vault":   opened(t),
		"a session": opened(t, "begin s", "put s a 1"),
		"a mirror":  mirrored(t, "begin s"),
		"rot":       mirrored(t, "rot 9 9 0"),
		"no power":  dead(t),
	}
}

// dead is a console with a mirror and a session, of which the power is gone.
func dead(t *testing.T) *console.Console {
	t.Helper()
	c := mirrored(t, "begin s", "put s z 1", "fuse 2")
	plays(t, c, row{"commit s", "error 32"})
	return c
}

// TestNumbersOfArguments: each number from 0 to 6 that a command does not take is refused, whatever there is, and changes nothing.
func TestNumbersOfArguments(t *testing.T) {
	for what, c := range scenes(t) {
		before := everything(c)
		for _, u := range usages {
			for n := range 7 {
				taken := slices.ContainsFunc(usages, func(x usage) bool { return x.name == u.name && len(x.arguments()) == n })
				if taken {
					continue
				}
				for _, filler := range []string{" 1", ` ""`, " -", " s"} {
					plays(t, c, row{u.name + strings.Repeat(filler, n), "error 191"})
				}
			}
		}
		is(t, "19.5: what lines with other numbers of arguments change, with "+what, everything(c), before)
	}
}

// wrong are words that an argument of a name cannot be.
func wrong(name string) []string {
	numbers := []string{
		`""`, "-", "-1", "+1", "-0", "+0", "x", "1x", "x1", "0x1", "1_000", "1.0", "1e3", `" 1"`, `"1 "`, `"1\t"`, `"\n1"`, `"1\x00"`, "\u0661", "\uff11", "1\xff", "١",
		"18446744073709551616", "18446744073709551617", "99999999999999999999", "340282366920938463463374607431768211456", letters("9", 300), letters("0", 300) + "18446744073709551616",
	}
	ints := append([]string{"9223372036854775808", "18446744073709551615", letters("0", 300) + "9223372036854775808"}, numbers...)
	hex := letters("0", 64)
	switch f := forms[name]; {
	case f.most == "18446744073709551615":
		return numbers
	case f.most == "9223372036854775807":
		return ints
	case f.most == "255":
		return append([]string{"256", "257", "0256", "511", "512", "9223372036854775807"}, ints...)
	case name == "KEEP":
		return []string{"2", "x", "01x", "x01", "0\u0661", `" "`, `"0 1"`, "-1", "+1", "1\xff", `"1\n"`, "10-"}
	case name == "HEX":
		return []string{`""`, "0", hex[1:], hex + "0", hex + "00", letters("A", 64), letters("F", 64), hex[1:] + "A", "g" + hex[1:], hex[1:] + "g", hex[1:] + `\`, `"` + hex[1:] + ` "`, hex[2:] + "é", "0x" + hex[2:], letters("é", 32), letters("\xff", 64)}
	case name == "PROOFHEX":
		return []string{"0", "000", "00003", "g0", "0g", "00g0", "0x00", `"00 03"`, `" 0003"`, "é0", "0é", "00é", "\xff\xff", "-", "+1", `"00\n"`, "\uff10\uff10"}
	}
	return nil
}

// right are words that an argument of a name can be.
func right(name string) []string {
	numbers := []string{"0", "00", "1", "01", `"1"`, `"\x31"`, "0000000000000000000000000000000000001", letters("0", 1000), letters("0", 1000) + "7"}
	ints := append([]string{"9223372036854775807", "9223372036854775806", letters("0", 300) + "9223372036854775807"}, numbers...)
	switch f := forms[name]; {
	case f.most == "18446744073709551615":
		return append([]string{"18446744073709551615", "18446744073709551614", "9223372036854775808", letters("0", 300) + "18446744073709551615"}, ints...)
	case f.most == "9223372036854775807":
		return ints
	case f.most == "255":
		return append([]string{"255", "254", "000255", "128", `"255"`}, numbers...)
	case name == "KEEP":
		return []string{`""`, "0", "1", "00", "01", `"10"`, letters("10", 500)}
	case name == "HEX":
		return []string{letters("0", 64), letters("f", 64), letters("0123456789abcdef", 4), `"` + letters("9", 64) + `"`}
	case name == "PROOFHEX":
		return []string{`""`, "00", "0003", "FF", "fF", "aAbBcCdDeEfF0123456789", `"00"`, letters("00", 1000)}
	}
	return []string{`""`, "-", `"-"`, "a", "0", "-1", "\xff", "é", `"\x00"`, "commit", `"put s"`, "a#b"}
}

// TestWrongArguments: each argument that has a form, with words that have it not, whatever there is, and whatever stands in the others; nothing changes.
func TestWrongArguments(t *testing.T) {
	for what, c := range scenes(t) {
		before := everything(c)
		for _, u := range usages {
			for i, name := range u.arguments() {
				for _, w := range wrong(name) {
					plays(t, c, row{u.line(i, w), "error 191"})
					if len(u.arguments()) == 1 {
						continue
					}
					words := slices.Repeat([]string{"x"}, len(u.arguments())) // those ahead of it and behind it may be wrong as well
					words[i] = w
					plays(t, c, row{u.name + " " + strings.Join(words, " "), "error 191"})
				}
			}
		}
		is(t, "19.5: what wrong arguments change, with "+what, everything(c), before)
	}
}

// TestRightArguments: what an argument may be is not refused with ErrArgs: what is told is something else.
func TestRightArguments(t *testing.T) {
	for _, u := range usages {
		for i, name := range u.arguments() {
			for _, w := range right(name) {
				for what, c := range map[string]*console.Console{"nothing": console.New(), "a mirror": mirrored(t, "begin s")} {
					got := c.Line(u.line(i, w))
					if got == "error 191" || got == "" {
						t.Errorf("19.2: %.200s, with %s: %q", u.line(i, w), what, got)
					}
				}
			}
		}
	}
}

// lacking is what a command that needs something is told in a scene; nothing, if it is there.
func lacking(needs, what string) string {
	disk := what != "nothing"
	vault := disk && what != "a disk" && what != "a store" && what != "rot"
	switch {
	case needs == "D" && !disk:
		return "error 193"
	case needs != "" && needs != "D" && !vault, needs == "M" && what != "a mirror" && what != "no power":
		return "error 194"
	case needs == "S" && what == "a vault":
		return "error 160"
	}
	return ""
}

// TestNeeds: what a command lacks is told: behind its arguments' errors (TestWrongArguments), ahead of its own; and nothing changes.
func TestNeeds(t *testing.T) {
	for what, c := range scenes(t) {
		before := everything(c)
		for _, u := range usages {
			if want := lacking(u.needs, what); want != "" {
				plays(t, c, row{u.line(-1, ""), want})
			}
			if u.needs == "S" && lacking("V", what) == "" { // a name that has none is told ahead of what the vault says, dead or alive
				plays(t, c, row{u.line(0, "nobody"), "error 160"}, row{u.line(0, `""`), "error 160"}, row{u.line(0, "S"), "error 160"})
			}
		}
		is(t, "19.5: what commands change that lack something, with "+what, everything(c), before)
	}
	for what := range scenes(t) {
		for _, u := range usages {
			if lacking(u.needs, what) != "" {
				continue
			}
			c := scenes(t)[what]
			if got := c.Line(u.line(-1, "")); got == "error 193" || got == "error 194" || got == "error 160" || got == "error 191" || got == "" {
				t.Errorf("19.5: %s, with %s: %q", u.line(-1, ""), what, got)
			}
		}
	}
}

func TestNoCommands(t *testing.T) {
	for what, c := range scenes(t) {
		before := everything(c)
		for _, line := range []string{
			`""`, "nothing", "Disk", "DISK 3 128", "disk\x00 3 128", "disk\n 3 128", `"disk " 3 128`, `" disk"`, "dis", "disks", "os", "-", "0", "é", "\xff", "put,", "error", "ok", "S", "s", `"put s a b"`, "put\u00a0s", "nothing 1 2 3 4 5 6 7 8",
			"makeDisk 3 128", "entries s a - 9", "copied a", "del\xff s a",
		} {
			plays(t, c, row{line, "error 190"})
		}
		for _, line := range []string{"", " ", "# disk 130 512", "\t\r # x", "#\""} {
			plays(t, c, row{line, ""})
		}
		plays(t, c, row{`"`, "error 191"}, row{`nothing "`, "error 191"}, row{`put"`, "error 191"}, row{`disk 1 "\q"`, "error 191"}, row{"nothing " + letters("x", api.MaxText), "error 192"})
		is(t, "19.5: what such lines change, with "+what, everything(c), before)
	}
}

// TestQuotedCommands: a command, a number and a name are words as they stand, quoted or not.
func TestQuotedCommands(t *testing.T) {
	plays(t, console.New(),
		row{`"disk" "130" "\x351\x32"`, "ok"},
		row{`"\x66ormat" 8 "03"`, "ok"},
		row{`"open"#`, "ok 0"},
		row{`begin "s"`, "ok"},
		row{`put s "a" "1"# and so on`, "ok"},
		row{`"get" "\x73" a`, `"1"`},
		row{"\r\tget\rs\ta\r", `"1"`},
		row{"get s a#", "none"},
		row{"get s a #", `"1"`},
	)
}
