package console_test

import (
	"strings"
	"testing"

	"witness/api"
	"witness/console"
)

// example is the chapter's script, line by line, with its answers.
var example = []row{
	{`disk 130 512`, `ok`},
	{`format 8 3`, `ok`},
	{`open`, `ok 0`},
	{`begin s`, `ok`},
	{`put s a 1`, `ok`},
	{`put s "b b" "x\ny"`, `ok`},
	{`get s a`, `"1"`},
	{`range s "" - 9`, `"a" = "1", "b b" = "x\ny"`},
	{`commit s`, `1`},
	{`versions`, `0:0 1:2`},
	{`root 1`, `0ff2df1d61535b89fab37e2de06899ac501e0a4f3ad8550766b4c0896b91053d`},
	{`at 1 "b b"`, `"x\ny"`},
	{`scan 1 a - 1`, `"a" = "1", more`},
	{`diff 0 1`, `+ "a" = "1", + "b b" = "x\ny"`},
	{`prove 1 "" -`, `ok 22 f2dd2945619505cb 0 2`},
	{`prove 1 a b`, `ok 80 fb285c147b37f5af 0 1`},
	{`head`, `2 e28ed5b1347258148eba45fef62668ca77c38aafc0b1b624505b0832b05f950b`},
	{`shown 1`, `ok 1`},
	{`begin s`, `ok`},
	{`begin t`, `ok`},
	{`put s a 2`, `ok`},
	{`put t a 3`, `ok`},
	{`commit s`, `2`},
	{`commit t`, `key "a": error 162`},
	{`abort t`, `ok`},
	{`get t a`, `error 160`},
	{`diff 1 2`, `! "a" = "2"`},
	{`compact`, `error 150`},
	{`retain 1`, `ok`},
	{`versions`, `2:2`},
	{`audit 3`, `clean`},
	{`stats`, `writes 27 flushes 10 pending 0`},
	{`image`, `8461caeb135dc8bc1810e68746b72aebfd79b6ad214f78a11de5eb9ae3404758`},
	{`mirror 130 512 8 2`, `ok`},
	{`sync`, `ok 2`},
	{`trusted`, `3 4dd04db9bb1530a3262d570c66226a9938e86cd7438d16c11faae32a03373524`},
	{`copy a`, `"2"`},
	{`lie 0 1`, `error 180`},
	{`fuse 3`, `ok`},
	{`begin u`, `ok`},
	{`put u c 3`, `ok`},
	{`commit u`, `error 32`},
	{`versions`, `error 163`},
	{`crash 11 1 20`, `ok`},
	{`open`, `ok 2`},
	{`versions`, `2:2`},
	{`audit 1`, `clean`},
	{`rot 2 4 1`, `ok`},
	{`audit 1`, `141/-1/0/0`},
	{`nothing`, `error 190`},
	{`put`, `error 191`},
	{`open now`, `error 191`},
	{`put s a b`, `error 194`},
	{`open`, `error 25`},
	{`check 974d575a "" - 0003`, `error 191`},
	{`disk 3 99`, `error 30`},
	{`"`, `error 191`},
}

func TestExamples(t *testing.T) {
	plays(t, console.New(), example...)
	script, want := "", ""
	for _, x := range example {
		script += x[0] + "\n"
		want += x[1] + "\n"
	}
	is(t, "19.5: Do of the chapter's script", console.Do(script), want)
	is(t, "19.5: Do of it without its last newline", console.Do(strings.TrimSuffix(script, "\n")), want)
	p := newPair(t)
	for _, x := range example {
		is(t, "the model: "+x[0], p.play(x[0]), x[1])
	}
}

func TestExamplesOfWords(t *testing.T) {
	cut(t, `  a "" "b\x00c" x#y # z`, "a", "", "b\x00c", "x#y")
	cut(t, `"a"# b`, "a")
	for _, line := range []string{`a"b`, `"a`, `"\q"`, `"a"b`} {
		uncut(t, line, api.ErrArgs)
	}
}
