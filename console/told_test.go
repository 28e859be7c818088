package console_test

import (
	"fmt"
	"slices"
	"strings"
	"testing"

	"witness/api"
	"witness/console"
)

func TestErrorsAreTold(t *testing.T) {
	version := func(n uint64, err error) error { return &api.VersionError{Number: n, Err: err} }
	key := func(k string, err error) error { return &api.KeyError{Key: []byte(k), Err: err} }
	for _, x := range []struct {
		err  error
		want string
	}{
		{api.ErrHex, "error 10"},
		{api.ErrNoVault, "error 194"},
		{api.Errno(7), "error 7"},
		{version(0, api.ErrVersion), "version 0: error 143"},
		{version(18446744073709551615, api.ErrStale), "version 18446744073709551615: error 164"},
		{key("", api.ErrConflict), `key "": error 162`},
		{key("a \"b\\\n\t\x00\xff~\x7f", api.ErrConflict), `key "a \"b\\\n\t\x00\xff~\x7f": error 162`},
		{version(3, key("a", version(4, api.ErrLimit))), `version 3: key "a": version 4: error 80`},
	} {
		is(t, "19.3", console.Told(x.err), x.want)
	}
}

// TestErrorsOfCalls: an Errno, a version's error around ErrVersion and around ErrStale, a key's error.
func TestErrorsOfCalls(t *testing.T) {
	c := opened(t, "retain 2", "begin s", "put s a 1", "begin old", "put old b 2", "commit s")
	plays(t, c,
		row{"retain 0", "error 142"},
		row{"root 2", "version 2: error 143"},
		row{"at 18446744073709551615 a", "version 18446744073709551615: error 143"},
		row{"begin s", "ok"},
		row{`put s "\"\\ \n\t\x00\x7f\x80é" 2`, "ok"},
		row{"begin t", "ok"},
		row{`put t "\"\\ \n\t\x00\x7f\x80é" 3`, "ok"},
		row{"commit s", "2"},
		row{"commit t", `key "\"\\ \n\t\x00\x7f\x80\xc3\xa9": error 162`},
		row{"get old b", "version 0: error 164"},
		row{"put old b 3", "version 0: error 164"},
		row{"del old b", "version 0: error 164"},
		row{"range old a - 1", "version 0: error 164"},
		row{"commit old", "version 0: error 164"},
		row{"abort old", "ok"},
		row{"get old b", "error 160"},
	)
}

// TestBytesAreWritten: each of the 256 bytes in a key and in a value, alone, between others, and ahead of digits; and what is written is read again as that word.
func TestBytesAreWritten(t *testing.T) {
	c := opened(t, "begin s")
	for b := range 256 {
		for _, key := range []string{string([]byte{byte(b)}), "x" + string([]byte{byte(b)}) + "y", string([]byte{byte(b), 'a', '0'}), string([]byte{byte(b), byte(b)})} {
			want := written([]byte(key))
			plays(t, c,
				row{"put s " + word(key) + " " + word(key), "ok"},
				row{"get s " + word(key), want},
				row{"range s " + want + " - 9", want + " = " + want},
			)
			held, e := console.Words("get " + want + " " + want + "#")
			if e != api.OK || !slices.Equal(held, []string{"get", key, key}) {
				t.Errorf("19.4: %s is read as %q, %d", want, held, e)
			}
			is(t, "19.4: "+want, c.Line("get s "+want), want)
			does(t, c, "del s "+want)
		}
	}
}

// TestTheByteTable holds the writing of each byte against the chapter's words, byte by byte.
func TestTheByteTable(t *testing.T) {
	c := opened(t, "begin s")
	for b := range 256 {
		want := fmt.Sprintf(`\x%02x`, b)
		switch {
		case b == '"':
			want = `\"`
		case b == '\\':
			want = `\\`
		case b == '\n':
			want = `\n`
		case b == '\t':
			want = `\t`
		case b >= 32 && b <= 126:
			want = string(rune(b))
		}
		plays(t, c, row{fmt.Sprintf(`put s k "\x%02x"`, b), "ok"}, row{"get s k", `"` + want + `"`})
	}
}

func TestEntriesAreTold(t *testing.T) {
	a := api.Entry{Key: []byte("a"), Value: []byte("1, \"2\"")}
	b := api.Entry{Key: []byte{}, Value: nil}
	for _, x := range []struct {
		l    []api.Entry
		more bool
		want string
	}{
		{nil, false, "empty"},
		{nil, true, "more"},
		{[]api.Entry{a}, false, `"a" = "1, \"2\""`},
		{[]api.Entry{a}, true, `"a" = "1, \"2\"", more`},
		{[]api.Entry{b, a}, false, `"" = "", "a" = "1, \"2\""`},
		{[]api.Entry{b, a}, true, `"" = "", "a" = "1, \"2\"", more`},
	} {
		is(t, "19.5: range", console.ToldEntries(x.l, x.more), x.want)
	}
}

// TestLongValues: the longest values and keys that a line can have, written and read again.
func TestLongValues(t *testing.T) {
	c := after(t, "disk 256 4096", "format 64 3", "open", "begin s")
	key := letters("k", api.MaxKey)
	long := letters("v", 65000)
	plays(t, c,
		row{"put s " + key + " " + letters("v", 60000), "ok"},
		row{"put s " + key + "k 1", "error 80"},
		row{"del s " + key + "k", "error 80"},
		row{"get s " + key + "k", "error 80"},
		row{"put s a " + long, "ok"},
		row{"get s a", `"` + long + `"`},
		row{"put s b " + word(letters("\xff", 16000)), "ok"},
		row{"get s b", `"` + letters(`\xff`, 16000) + `"`},
		row{"commit s", "1"},
		row{"at 1 " + key, `"` + letters("v", 60000) + `"`},
		row{"at 1 " + key + "k", "error 80"},
	)
	got := c.Line(`scan 1 "" - 9`)
	if len(got) != 65000+64000+60000+1024+2+3*len(`"" = ""`)+2*len(", ") || strings.Contains(got, "\n") {
		t.Errorf("19.5: scan of long values has %d bytes", len(got))
	}
}
