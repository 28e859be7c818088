package console_test

import (
	"encoding/hex"
	"fmt"
	"math/big"
	"regexp"
	"slices"
	"strings"

	"witness/annals"
	"witness/api"
	"witness/audit"
	"witness/digest"
	"witness/disk"
	"witness/mirror"
	"witness/vault"
	"witness/verify"
)

// usage is a command as the chapter's table has it: what it needs (D, V, S, or M for a mirror), and its arguments.
type usage struct{ name, needs, takes string }

var usages = []usage{
	{"disk", "", "SECTORS SIZE"},
	{"format", "D", "SPAN WINDOW"},
	{"open", "D", ""},
	{"close", "V", ""},
	{"begin", "V", "S"},
	{"begin", "V", "S VERSION"},
	{"put", "S", "S KEY VALUE"},
	{"del", "S", "S KEY"},
	{"get", "S", "S KEY"},
	{"range", "S", "S LO HI MOST"},
	{"commit", "S", "S"},
	{"abort", "S", "S"},
	{"versions", "V", ""},
	{"root", "V", "VERSION"},
	{"at", "V", "VERSION KEY"},
	{"scan", "V", "VERSION LO HI MOST"},
	{"diff", "V", "FROM TO"},
	{"prove", "V", "VERSION LO HI"},
	{"check", "", "HEX LO HI PROOFHEX"},
	{"head", "V", ""},
	{"shown", "V", "VERSION"},
	{"grown", "V", "OLD HEX"},
	{"retain", "V", "WINDOW"},
	{"compact", "V", ""},
	{"fuse", "D", "N"},
	{"crash", "D", ""},
	{"crash", "D", "KEEP"},
	{"crash", "D", "KEEP TORN AT"},
	{"rot", "D", "SECTOR AT MASK"},
	{"audit", "D", "WORKERS"},
	{"stats", "D", ""},
	{"image", "D", ""},
	{"mirror", "V", "SECTORS SIZE SPAN WINDOW"},
	{"sync", "M", ""},
	{"lie", "M", "BYTE MASK"},
	{"copy", "M", "KEY"},
	{"trusted", "M", ""},
}

func (u usage) arguments() []string { return strings.Fields(u.takes) }

// forms tells how the arguments of a name are written, and of a number its greatest.
var forms = map[string]struct{ form, most string }{
	"SECTORS":  {"^[0-9]+$", "9223372036854775807"},
	"SIZE":     {"^[0-9]+$", "9223372036854775807"},
	"SPAN":     {"^[0-9]+$", "9223372036854775807"},
	"WINDOW":   {"^[0-9]+$", "9223372036854775807"},
	"MOST":     {"^[0-9]+$", "9223372036854775807"},
	"N":        {"^[0-9]+$", "9223372036854775807"},
	"TORN":     {"^[0-9]+$", "9223372036854775807"},
	"AT":       {"^[0-9]+$", "9223372036854775807"},
	"SECTOR":   {"^[0-9]+$", "9223372036854775807"},
	"WORKERS":  {"^[0-9]+$", "9223372036854775807"},
	"VERSION":  {"^[0-9]+$", "18446744073709551615"},
	"FROM":     {"^[0-9]+$", "18446744073709551615"},
	"TO":       {"^[0-9]+$", "18446744073709551615"},
	"OLD":      {"^[0-9]+$", "18446744073709551615"},
	"BYTE":     {"^[0-9]+$", "18446744073709551615"},
	"MASK":     {"^[0-9]+$", "255"},
	"KEEP":     {"^[01]*$", ""},
	"HEX":      {"^[0-9a-f]{64}$", ""},
	"PROOFHEX": {"^([0-9a-fA-F]{2})*$", ""},
}

func isNumber(name string) bool { return forms[name].most != "" }

// takes tells whether a word may be the argument of that name.
func takes(name, text string) bool {
	f, ok := forms[name]
	if !ok {
		return true
	}
	if !regexp.MustCompile(f.form).MatchString(text) {
		return false
	}
	return !isNumber(name) || value(text).Cmp(value(f.most)) <= 0
}

func value(text string) *big.Int {
	n, _ := new(big.Int).SetString(text, 10)
	return n
}

// latin is a text of which each rune is one of the bytes: so expressions go byte by byte.
func latin(text string) string {
	var l []rune
	for i := range len(text) {
		l = append(l, rune(text[i]))
	}
	return string(l)
}

func back(text string) string {
	var b []byte
	for _, r := range text {
		b = append(b, byte(r))
	}
	return string(b)
}

var (
	quotedWord = regexp.MustCompile(`(?s)^"((?:[^"\\]|\\["\\nt]|\\x[0-9A-Fa-f][0-9A-Fa-f])*)"`)
	stroke     = regexp.MustCompile(`(?s)\\(x..|.)`)
)

// unstroked is what stands between a word's quotes, without strokes.
func unstroked(text string) string {
	return stroke.ReplaceAllStringFunc(text, func(s string) string {
		switch s[1] {
		case 'n':
			return "\n"
		case 't':
			return "\t"
		case 'x':
			b, _ := hex.DecodeString(s[2:])
			return string(rune(b[0]))
		}
		return s[1:]
	})
}

// modelWords are a line's words by expressions.
func modelWords(line string) ([]string, api.Errno) {
	if len(line) > 65536 {
		return nil, api.ErrText
	}
	const blanks = " \t\r"
	var l []string
	for rest := strings.TrimLeft(latin(line), blanks); rest != "" && rest[0] != '#'; rest = strings.TrimLeft(rest, blanks) {
		if rest[0] == '"' {
			m := quotedWord.FindStringSubmatch(rest)
			if m == nil {
				return nil, api.ErrArgs
			}
			rest = rest[len(m[0]):]
			if rest != "" && !strings.ContainsAny(rest[:1], blanks+"#") {
				return nil, api.ErrArgs
			}
			l = append(l, back(unstroked(m[1])))
			continue
		}
		end := strings.IndexAny(rest, blanks)
		if end < 0 {
			end = len(rest)
		}
		if strings.Contains(rest[:end], `"`) {
			return nil, api.ErrArgs
		}
		l = append(l, back(rest[:end]))
		rest = rest[end:]
	}
	return l, api.OK
}

// written is a key or a value, by a table of the 256 bytes' texts.
func written(text []byte) string {
	var s strings.Builder
	for _, b := range text {
		switch {
		case b == '\n':
			s.WriteString(`\n`)
		case b == '\t':
			s.WriteString(`\t`)
		case b == '"', b == '\\':
			s.WriteString(`\` + string(rune(b)))
		case b < 32, b > 126:
			fmt.Fprintf(&s, `\x%02x`, b)
		default:
			s.WriteByte(b)
		}
	}
	return `"` + s.String() + `"`
}

// model is a console that is written down another way: as the chapter's table is read, command by command.
type model struct {
	d      *disk.Disk
	rotten bool
	v      *vault.Vault
	names  map[string]int
	m      *mirror.Mirror
	w      *vault.Vault
}

func (x *model) said(err error) string {
	if e, ok := err.(api.Errno); ok {
		return refused(e)
	}
	if e, ok := err.(*api.VersionError); ok {
		return fmt.Sprintf("version %d: %s", e.Number, x.said(e.Err))
	}
	e := err.(*api.KeyError)
	return fmt.Sprintf("key %s: %s", written(e.Key), x.said(e.Err))
}

func (x *model) line(line string) string {
	l, e := modelWords(line)
	switch {
	case e != api.OK:
		return refused(e)
	case len(l) == 0:
		return ""
	case !slices.ContainsFunc(usages, func(u usage) bool { return u.name == l[0] }):
		return refused(api.ErrCommand)
	}
	i := slices.IndexFunc(usages, func(u usage) bool { return u.name == l[0] && len(u.arguments()) == len(l)-1 })
	if i < 0 {
		return refused(api.ErrArgs)
	}
	for n, name := range usages[i].arguments() {
		if !takes(name, l[n+1]) {
			return refused(api.ErrArgs)
		}
	}
	needs := usages[i].needs
	switch {
	case needs == "D" && x.d == nil:
		return refused(api.ErrNoDisk)
	case strings.Contains("VSM", needs) && needs != "" && x.v == nil, needs == "M" && x.m == nil:
		return refused(api.ErrNoVault)
	case needs == "S" && x.names[l[1]] == 0:
		return refused(api.ErrSession)
	}
	return x.answer(l[0], l[1:])
}

func num(text string) uint64 { return value(text).Uint64() }

func whole(text string) int { return int(value(text).Int64()) }

func spanned(lo, hi string) api.Span {
	s := api.Span{Lo: []byte(lo), Hi: []byte(hi), Open: hi == "-"}
	return s
}

// or is an error, told, or else what was to be answered.
func (x *model) or(err error, format string, a ...any) string {
	if err != nil && err != error(api.OK) {
		return x.said(err)
	}
	return fmt.Sprintf(format, a...)
}

func small(sectors, size string) (*disk.Disk, api.Errno) {
	d, e := disk.New(whole(sectors), whole(size))
	if e == api.OK && len(d.Image()) > 1<<20 {
		return nil, api.ErrSize
	}
	return d, e
}

func (x *model) empty() { x.v, x.m, x.w, x.names = nil, nil, nil, map[string]int{} }

func (x *model) answer(name string, a []string) string {
	switch name {
	case "disk", "format", "fuse", "crash", "rot", "audit", "stats", "image":
		return x.ofDisk(name, a)
	case "open", "close", "begin", "put", "del", "get", "range", "commit", "abort", "retain", "compact":
		return x.ofVault(name, a)
	case "mirror", "sync", "lie", "copy", "trusted":
		return x.ofMirror(name, a)
	}
	return x.ofVersions(name, a)
}

func (x *model) ofDisk(name string, a []string) string {
	switch name {
	case "disk":
		d, e := small(a[0], a[1])
		if e == api.OK {
			x.d, x.rotten = d, false
			x.empty()
		}
		return x.or(e, "ok")
	case "format":
		x.empty()
		err := vault.Format(x.d, whole(a[0]), whole(a[1]))
		x.rotten = x.rotten && err != nil
		return x.or(err, "ok")
	case "fuse":
		x.d.Fuse(whole(a[0]))
		return "ok"
	case "crash":
		c := api.Crash{Torn: -1}
		if len(a) > 0 {
			for _, b := range a[0] {
				c.Keep = append(c.Keep, b == '1')
			}
		}
		if len(a) > 1 {
			c.Torn, c.At = whole(a[1]), whole(a[2])
		}
		x.d.Crash(c)
		return "ok"
	case "rot":
		e := x.d.Rot(whole(a[0]), whole(a[1]), byte(num(a[2])))
		if e == api.OK {
			x.rotten = true
			x.empty()
		}
		return x.or(e, "ok")
	case "audit":
		r, e := audit.Run(x.d, whole(a[0]))
		s := ""
		for _, f := range r.Findings {
			s += fmt.Sprintf(" %d/%d/%d/%d", f.Code, f.Seg, f.At, f.Version)
		}
		if s == "" {
			s = " clean"
		}
		return x.or(e, "%s", s[1:])
	case "stats":
		s := x.d.Stats()
		return fmt.Sprintf("writes %d flushes %d pending %d", s.Writes, s.Flushes, len(x.d.Pending()))
	}
	return fmt.Sprintf("%x", digest.Of(x.d.Image()))
}

func (x *model) ofVault(name string, a []string) string {
	s := 0
	if len(a) > 0 {
		s = x.names[a[0]]
	}
	switch name {
	case "open":
		if x.rotten {
			return refused(api.ErrCheck)
		}
		v, err := vault.Open(x.d)
		if err != nil {
			return x.said(err)
		}
		x.empty()
		x.v = v
		l, _ := v.Versions()
		return fmt.Sprint("ok ", l[len(l)-1].Number)
	case "close":
		err := x.v.Close()
		x.empty()
		return x.or(err, "ok")
	case "begin":
		n, err := 0, error(nil)
		if len(a) == 1 {
			n, err = x.v.Begin()
		} else {
			n, err = x.v.BeginAt(num(a[1]))
		}
		if err == nil {
			x.names[a[0]] = n
		}
		return x.or(err, "ok")
	case "put":
		return x.or(x.v.Put(s, []byte(a[1]), []byte(a[2])), "ok")
	case "del":
		return x.or(x.v.Delete(s, []byte(a[1])), "ok")
	case "get":
		return x.got(x.v.Get(s, []byte(a[1])))
	case "range":
		return x.listed(x.v.Range(s, spanned(a[1], a[2]), whole(a[3])))
	case "commit":
		n, err := x.v.Commit(s)
		if err == nil {
			delete(x.names, a[0])
		}
		return x.or(err, "%d", n)
	case "abort":
		err := x.v.Abort(s)
		if err == nil {
			delete(x.names, a[0])
		}
		return x.or(err, "ok")
	case "retain":
		return x.or(x.v.Retain(whole(a[0])), "ok")
	}
	n, err := x.v.Compact()
	return x.or(err, "%d", n)
}

func (x *model) got(value []byte, there bool, err error) string {
	if err == nil && !there {
		return "none"
	}
	return x.or(err, "%s", written(value))
}

func (x *model) listed(l []api.Entry, more bool, err error) string {
	s := ""
	for _, e := range l {
		s += ", " + written(e.Key) + " = " + written(e.Value)
	}
	if more {
		s += ", more"
	}
	if s == "" {
		s = ", empty"
	}
	return x.or(err, "%s", s[2:])
}

func (x *model) kept(number uint64) (api.Version, error) {
	l, err := x.v.Versions()
	for _, v := range l {
		if v.Number == number {
			return v, nil
		}
	}
	if err == nil {
		err = &api.VersionError{Number: number, Err: api.ErrVersion}
	}
	return api.Version{}, err
}

func (x *model) ofVersions(name string, a []string) string {
	switch name {
	case "versions":
		l, err := x.v.Versions()
		s := ""
		for _, v := range l {
			s += fmt.Sprintf(" %d:%d", v.Number, v.Tree.Count)
		}
		return strings.TrimPrefix(x.or(err, "%s", s), " ")
	case "root":
		v, err := x.kept(num(a[0]))
		return x.or(err, "%x", v.Tree.Label)
	case "at":
		return x.got(x.v.GetAt(num(a[0]), []byte(a[1])))
	case "scan":
		return x.listed(x.v.RangeAt(num(a[0]), spanned(a[1], a[2]), whole(a[3])))
	case "diff":
		l, err := x.v.Diff(num(a[0]), num(a[1]))
		s := ""
		for _, c := range l {
			switch {
			case !c.Had:
				s += fmt.Sprintf(", + %s = %s", written(c.Key), written(c.New))
			case !c.Has:
				s += fmt.Sprintf(", - %s", written(c.Key))
			default:
				s += fmt.Sprintf(", ! %s = %s", written(c.Key), written(c.New))
			}
		}
		if s == "" {
			s = ", same"
		}
		return x.or(err, "%s", s[2:])
	case "prove":
		proof, err := x.v.ProveAt(num(a[0]), spanned(a[1], a[2]))
		if err != nil {
			return x.said(err)
		}
		v, _ := x.kept(num(a[0]))
		r, e := verify.Span(v.Tree.Label, spanned(a[1], a[2]), proof)
		return x.or(e, "ok %d %.8x %d %d", len(proof), digest.Of(proof), r.Rank, len(r.Entries))
	case "check":
		root, _ := digest.Parse(a[0])
		proof, _ := hex.DecodeString(a[3])
		r, e := verify.Span(root, spanned(a[1], a[2]), proof)
		return x.or(e, "ok %d %d %d", r.Rank, r.Count, len(r.Entries))
	}
	return x.ofAnnals(name, a)
}

func (x *model) ofAnnals(name string, a []string) string {
	head, err := x.v.Head()
	if err != nil {
		return x.said(err)
	}
	switch name {
	case "head":
		return fmt.Sprintf("%d %x", head.Size, head.Label)
	case "shown":
		v, err := x.kept(num(a[0]))
		if err != nil {
			return x.said(err)
		}
		path, err := x.v.Included(v.Number)
		if err != nil {
			return x.said(err)
		}
		return x.or(annals.Included(head, v.Number, api.Leaf{Version: v.Number, Label: v.Tree.Label}, path), "ok %d", len(path))
	}
	path, err := x.v.Extends(num(a[0]))
	if err != nil {
		return x.said(err)
	}
	label, _ := digest.Parse(a[1])
	return x.or(annals.Extends(api.Head{Size: num(a[0]), Label: label}, head, path), "ok %d", len(path))
}

func (x *model) ofMirror(name string, a []string) string {
	switch name {
	case "mirror":
		x.m, x.w = nil, nil
		d, e := small(a[0], a[1])
		if e != api.OK {
			return refused(e)
		}
		if err := vault.Format(d, whole(a[2]), whole(a[3])); err != nil {
			return x.said(err)
		}
		w, err := vault.Open(d)
		if err != nil {
			return x.said(err)
		}
		x.m, x.w = mirror.New(w, api.Head{}), w
		return "ok"
	case "sync":
		return x.round(func([]byte) {})
	case "lie":
		return x.round(func(b []byte) {
			place := new(big.Int).Mod(value(a[0]), big.NewInt(int64(len(b)))).Int64()
			b[place] ^= byte(whole(a[1]))
		})
	case "copy":
		l, err := x.w.Versions()
		if err != nil {
			return x.said(err)
		}
		return x.got(x.w.GetAt(l[len(l)-1].Number, []byte(a[0])))
	}
	return fmt.Sprintf("%d %x", x.m.Trusted().Size, x.m.Trusted().Label)
}

func (x *model) round(spoil func([]byte)) string {
	if e := x.m.Start(); e != api.OK {
		return refused(e)
	}
	for {
		q, ok := x.m.Ask()
		if !ok {
			n, _ := x.m.Done()
			return fmt.Sprint("ok ", n)
		}
		b := mirror.Serve(x.v, q)
		spoil(b)
		if err := x.m.Hear(b); err != nil {
			return x.said(err)
		}
	}
}
