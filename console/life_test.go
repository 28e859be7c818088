package console_test

import (
	"fmt"
	"math/rand/v2"
	"strings"
	"sync"
	"testing"

	"witness/digest"
)

// life is a console, in any state, with lines by chance.
type life struct {
	*pair
	r     *rand.Rand
	heads []string // those of the vault that is open now, as arguments of grown
}

func newLife(t *testing.T, seed uint64) *life {
	t.Helper()
	l := &life{r: noise(seed)}
	l.pair = newPair(t, l.pick("disk 66 128", "disk 130 128", "disk 34 256", "disk 500 128"), l.pick("format 8 3", "format 16 2"), "open")
	return l
}

// pick is one of some texts.
func (l *life) pick(texts ...string) string { return texts[l.r.IntN(len(texts))] }

func (l *life) key() string {
	return written([]byte(l.pick("a", "b", "c", "", "ab", "\x00", "\xff", "é", "a\"b", "-")))
}

func (l *life) name() string { return l.pick("s", "s", "s", "s", "t", "t", `""`, "commit") }

func (l *life) hi() string {
	if l.r.IntN(2) == 0 {
		return l.pick("-", `"-"`)
	}
	return l.key()
}

func (l *life) value() string {
	switch l.r.IntN(4) {
	case 0:
		return `"` + letters(l.pick("x", "y"), l.r.IntN(300)) + `"`
	case 1:
		return word(letters(l.pick("\x00", "\xfe", "\n"), l.r.IntN(20)))
	}
	return written([]byte(l.pick("1", "2", "3", "", "x\ny")))
}

// version is one near the newest one, or none.
func (l *life) version() string {
	if l.r.IntN(12) == 0 {
		return l.pick("9223372036854775808", "18446744073709551615", "4611686018427387904", "077")
	}
	return fmt.Sprint(max(0, l.newest()+1-l.r.IntN(5)))
}

func (l *life) newest() int {
	if l.x.v == nil {
		return 0
	}
	versions, err := l.x.v.Versions()
	if err != nil {
		return 0
	}
	return int(versions[len(versions)-1].Number)
}

func (l *life) most() string { return l.pick("0", "1", "2", "3", "9", "4096", "4097") }

// line is any one; the vault is left alive mostly.
func (l *life) line() string {
	switch l.r.IntN(10) {
	case 0, 1, 2, 3, 4:
		return l.edits()
	case 5, 6, 7:
		return l.reads()
	case 8:
		return l.mirrors()
	}
	return l.breaks()
}

func (l *life) edits() string {
	switch l.r.IntN(12) {
	case 0, 1, 2, 3:
		return "put " + l.name() + " " + l.key() + " " + l.value()
	case 4:
		return "del " + l.name() + " " + l.key()
	case 5, 6, 7:
		return "begin " + l.name()
	case 8:
		return "begin " + l.name() + " " + l.version()
	case 9, 10:
		return "commit " + l.name()
	}
	return "abort " + l.name()
}

func (l *life) reads() string {
	switch l.r.IntN(15) {
	case 0, 1:
		return "get " + l.name() + " " + l.key()
	case 2, 3:
		return "range " + l.name() + " " + l.key() + " " + l.hi() + " " + l.most()
	case 4:
		return "versions"
	case 5:
		return "root " + l.version()
	case 6:
		return "at " + l.version() + " " + l.key()
	case 7:
		return "scan " + l.version() + " " + l.key() + " " + l.hi() + " " + l.most()
	case 8, 9:
		return "diff " + l.version() + " " + l.version()
	case 10:
		return "prove " + l.version() + " " + l.key() + " " + l.hi()
	case 11:
		return "head"
	case 12:
		return "shown " + l.version()
	case 13:
		if len(l.heads) > 0 && l.r.IntN(4) > 0 {
			return "grown " + l.pick(l.heads...)
		}
	}
	return fmt.Sprint("grown ", l.r.IntN(l.newest()+3), " ", digest.Hex(digest.Of([]byte{byte(l.r.IntN(3) + 20)})))
}

func (l *life) mirrors() string {
	switch l.r.IntN(12) {
	case 0, 1:
		return fmt.Sprintf("mirror %s %s", l.pick("66 128", "130 128", "500 128", "1 128", "99 99", "257 4096"), l.pick("8 2", "8 2", "16 3", "8 0", "1 3"))
	case 2, 3, 4, 5:
		return "sync"
	case 6, 7:
		return fmt.Sprintf("lie %d %d", l.r.IntN(120), l.r.IntN(257))
	case 8:
		return fmt.Sprintf("lie %d 0", l.r.IntN(120))
	case 9, 10:
		return "copy " + l.key()
	}
	return "trusted"
}

func (l *life) breaks() string {
	switch l.r.IntN(24) {
	case 0, 1:
		return "retain " + fmt.Sprint(l.r.IntN(5))
	case 2, 3, 4, 5:
		return "compact"
	case 6, 7:
		return "fuse " + fmt.Sprint(l.r.IntN(30))
	case 8:
		return "crash"
	case 9:
		return l.crash()
	case 10, 11:
		return "audit " + fmt.Sprint(l.r.IntN(19))
	case 12, 13, 14:
		return "stats"
	case 15, 16, 17:
		return "image"
	case 18:
		return "open"
	case 19, 20, 21:
		return l.pick("versions # and no more", "", " ", "nothing", `put s "`, "open now", "fuse x")
	}
	return l.rare()
}

func (l *life) crash() string {
	return "crash " + l.pick(`""`, "1", "0", "101", "1111111111", "0110") + l.pick("", fmt.Sprintf(" %d %d", l.r.IntN(5), l.r.IntN(200)))
}

// rare is a line that takes away much.
func (l *life) rare() string {
	switch l.r.IntN(6) {
	case 0:
		return l.pick("disk 66 128", "disk 130 128", "disk 34 256", "disk 3 100", "disk 9999 4096")
	case 1:
		return l.pick("format 8 2", "format 16 3", "format 1 1", "format 8 65", "format 64 3")
	case 2:
		return fmt.Sprintf("rot %d %d %d", l.r.IntN(140), l.r.IntN(130), l.r.IntN(256))
	case 3, 4:
		return fmt.Sprintf("rot %d %d 1", l.r.IntN(2), l.r.IntN(40))
	}
	return "close"
}

// mends brings back, sooner or later, a vault that lives.
func (l *life) mends() {
	l.t.Helper()
	if l.r.IntN(4) > 0 {
		return
	}
	if l.x.d.Off() {
		l.plays("stats", l.crash(), "open")
	}
	if l.x.v == nil {
		l.plays("crash", "open", "format "+l.pick("8 2", "16 3"), "open")
		l.heads = nil
	}
	if _, err := l.x.v.Versions(); err != nil {
		l.plays("open")
	}
	if got := l.play("head"); !isError(got) {
		l.heads = append(l.heads, got)
	}
}

// lives plays so many lines: how often a command went well, and which errors were told.
func (l *life) lives(steps int) map[string]int {
	l.t.Helper()
	for range steps {
		l.play(l.line())
		l.mends()
	}
	l.all()
	l.does()
	met := map[string]int{}
	for i, answer := range l.said {
		name, _, _ := strings.Cut(l.lines[i], " ")
		if isError(answer) {
			name = answer[strings.LastIndex(answer, "error"):]
		}
		met[name]++
	}
	return met
}

// TestLives: consoles in every state, by any commands, against the model; and what they are told is of all sorts.
func TestLives(t *testing.T) {
	t.Parallel()
	met := map[string]int{}
	var lock sync.Mutex
	t.Run("each", func(t *testing.T) {
		for seed := range uint64(32) {
			t.Run(fmt.Sprint(seed), func(t *testing.T) {
				t.Parallel()
				one := newLife(t, seed).lives(1000)
				lock.Lock()
				defer lock.Unlock()
				for what, times := range one {
					met[what] += times
				}
			})
		}
	})
	for _, u := range usages {
		if u.name != "check" && met[u.name] < 10 {
			t.Errorf("%s goes well %d times", u.name, met[u.name])
		}
	}
	for _, e := range []int{25, 30, 31, 32, 50, 51, 91, 92, 130, 132, 140, 142, 143, 150, 160, 161, 162, 163, 164, 170, 180, 181, 182, 190, 191, 194} {
		if met[fmt.Sprint("error ", e)] == 0 {
			t.Errorf("error %d is not met", e)
		}
	}
}
