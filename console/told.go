package console

import (
	"strconv"
	"strings"

	"witness/api"
	"witness/digest"
)

const (
	done   = "ok"
	digits = "0123456789abcdef"
)

// told is an error in a line. (No layer has errors of other types than these.)
func told(err error) string {
	switch e := err.(type) {
	case *api.VersionError:
		return "version " + decimal(e.Number) + ": " + told(e.Err)
	case *api.KeyError:
		return "key " + quoted(e.Key) + ": " + told(e.Err)
	case api.Errno:
		return "error " + strconv.Itoa(int(e))
	}
	return ""
}

func decimal(n uint64) string { return strconv.FormatUint(n, 10) }

// spaced is words apart by single spaces.
func spaced(words ...string) string { return strings.Join(words, " ") }

// quoted is a key or a value as a quoted word.
func quoted(key []byte) string {
	b := []byte{'"'}
	for _, x := range key {
		switch {
		case x == '"' || x == '\\':
			b = append(b, '\\', x)
		case x == '\n':
			b = append(b, '\\', 'n')
		case x == '\t':
			b = append(b, '\\', 't')
		case x >= ' ' && x <= '~':
			b = append(b, x)
		default:
			b = append(b, '\\', 'x', digits[x>>4], digits[x&15])
		}
	}
	return string(append(b, '"'))
}

// toldValue is what a key has.
func toldValue(value []byte, there bool) string {
	if !there {
		return "none"
	}
	return quoted(value)
}

func toldEntry(key, value []byte) string { return quoted(key) + " = " + quoted(value) }

// toldEntries is entries, and whether there are more.
func toldEntries(l []api.Entry, more bool) string {
	var parts []string
	for _, e := range l {
		parts = append(parts, toldEntry(e.Key, e.Value))
	}
	if more {
		parts = append(parts, "more")
	}
	if len(parts) == 0 {
		return "empty"
	}
	return strings.Join(parts, ", ")
}

func toldChanges(l []api.Change) string {
	if len(l) == 0 {
		return "same"
	}
	var parts []string
	for _, c := range l {
		parts = append(parts, toldChange(c))
	}
	return strings.Join(parts, ", ")
}

func toldChange(c api.Change) string {
	switch {
	case !c.Has:
		return "- " + quoted(c.Key)
	case c.Had:
		return "! " + toldEntry(c.Key, c.New)
	}
	return "+ " + toldEntry(c.Key, c.New)
}

func toldVersions(l []api.Version) string {
	var parts []string
	for _, v := range l {
		parts = append(parts, decimal(v.Number)+":"+decimal(v.Tree.Count))
	}
	return spaced(parts...)
}

func toldHead(h api.Head) string { return spaced(decimal(h.Size), digest.Hex(h.Label)) }

func toldFindings(l []api.Finding) string {
	var parts []string
	for _, f := range l {
		numbers := []string{strconv.Itoa(int(f.Code)), strconv.Itoa(f.Seg), strconv.Itoa(f.At), decimal(f.Version)}
		parts = append(parts, strings.Join(numbers, "/"))
	}
	return spaced(parts...)
}
