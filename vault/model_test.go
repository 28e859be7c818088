package vault_test

import (
	"fmt"
	"maps"
	"slices"
	"strings"

	"witness/annals"
	"witness/api"
	"witness/node"
)

// model is what 16.12 says: a list of maps, one a version; and for each session its base's map with its edits.
type model struct {
	maps     []map[string]string // of all versions that ever were
	labels   []api.Sum           // their root labels, by definition
	oldest   int                 // the first version that is kept
	window   int
	sessions map[int]*played
	begun    int
	closed   bool
}

// played is a session: an edit is a value, or nil where the key is gone.
type played struct {
	base  int
	edits map[string]*string
}

func newModel(window int) *model {
	m := &model{window: window, sessions: map[int]*played{}}
	m.grow(map[string]string{})
	return m
}

// copied is a model that goes on by itself.
func (m *model) copied() *model {
	x := *m
	x.maps, x.labels, x.sessions = slices.Clone(m.maps), slices.Clone(m.labels), map[int]*played{}
	for n, p := range m.sessions {
		x.sessions[n] = &played{base: p.base, edits: maps.Clone(p.edits)}
	}
	return &x
}

// opened is the model of a vault over the same disk that was opened just now.
func (m *model) opened() *model {
	x := m.copied()
	x.sessions, x.begun, x.closed = map[int]*played{}, 0, false
	return x
}

func (m *model) newest() int { return len(m.maps) - 1 }

// grow makes a map the next version.
func (m *model) grow(next map[string]string) {
	m.maps = append(m.maps, next)
	m.labels = append(m.labels, labelOf(next))
	m.drop()
}

func (m *model) drop() { m.oldest = max(m.oldest, len(m.maps)-m.window) }

func entriesOf(x map[string]string) []api.Entry {
	var l []api.Entry
	for _, k := range slices.Sorted(maps.Keys(x)) {
		l = append(l, api.Entry{Key: []byte(k), Value: []byte(x[k])})
	}
	return l
}

func labelOf(x map[string]string) api.Sum {
	sum, e := node.Root(entriesOf(x))
	if e != api.OK {
		panic(e)
	}
	return sum
}

func (m *model) keeps(version uint64) bool {
	return version >= uint64(m.oldest) && version <= uint64(m.newest())
}

// session is an open one; or why it cannot be asked.
func (m *model) session(number int) (*played, string) {
	p := m.sessions[number]
	switch {
	case m.closed:
		return nil, refused(api.ErrDead)
	case p == nil:
		return nil, refused(api.ErrSession)
	case p.base < m.oldest:
		return nil, at(p.base, api.ErrStale)
	}
	return p, ""
}

// version is a map that is kept; or why it cannot be asked.
func (m *model) version(number uint64) (map[string]string, string) {
	switch {
	case m.closed:
		return nil, refused(api.ErrDead)
	case !m.keeps(number):
		return nil, at(number, api.ErrVersion)
	}
	return m.maps[number], ""
}

// sees is the map that a session sees.
func (m *model) sees(p *played) map[string]string { return behind(m.maps[p.base], p.edits) }

func behind(x map[string]string, edits map[string]*string) map[string]string {
	x = maps.Clone(x)
	for k, v := range edits {
		if v == nil {
			delete(x, k)
		} else {
			x[k] = *v
		}
	}
	return x
}

func (m *model) begin(base int) string {
	if len(m.sessions) == 16 {
		return refused(api.ErrSessions)
	}
	m.begun++
	m.sessions[m.begun] = &played{base: base, edits: map[string]*string{}}
	return fmt.Sprint(m.begun)
}

func (m *model) Begin() string {
	if m.closed {
		return refused(api.ErrDead)
	}
	return m.begin(m.newest())
}

func (m *model) BeginAt(version uint64) string {
	if _, no := m.version(version); no != "" {
		return no
	}
	return m.begin(int(version))
}

func (m *model) Put(session int, key, value string) string {
	p, no := m.session(session)
	if no != "" {
		return no
	}
	if _, known := p.edits[key]; len(key) > 1024 || len(value) > 65536 || !known && len(p.edits) == 4096 {
		return refused(api.ErrLimit)
	}
	p.edits[key] = &value
	return told(nil)
}

func (m *model) Delete(session int, key string) string {
	p, no := m.session(session)
	if no != "" {
		return no
	}
	if _, known := p.edits[key]; len(key) > 1024 || !known && len(p.edits) == 4096 {
		return refused(api.ErrLimit)
	}
	p.edits[key] = nil
	return told(nil)
}

func (m *model) Batch(session int, l []api.Edit) string {
	p, no := m.session(session)
	if no != "" {
		return no
	}
	next, fits := maps.Clone(p.edits), len(l) <= 4096
	for _, e := range l {
		value := string(e.Value)
		fits = fits && len(e.Key) <= 1024 && (e.Gone || len(value) <= 65536)
		next[string(e.Key)] = &value
		if e.Gone {
			next[string(e.Key)] = nil
		}
	}
	if !fits || len(next) > 4096 {
		return refused(api.ErrLimit)
	}
	p.edits = next
	return told(nil)
}

func get(x map[string]string, key string) string {
	if len(key) > 1024 {
		return refused(api.ErrLimit)
	}
	value, there := x[key]
	return valueWords(value, there)
}

// unfit is why a span is refused.
func unfit(s api.Span) string {
	switch {
	case len(s.Lo) > 1025 || !s.Open && len(s.Hi) > 1025:
		return refused(api.ErrLimit)
	case !s.Open && string(s.Lo) >= string(s.Hi):
		return refused(api.ErrBounds)
	}
	return ""
}

func isIn(s api.Span, key string) bool {
	return key >= string(s.Lo) && (s.Open || key < string(s.Hi))
}

// entriesIn tells the entries of a span, each by itself; and how many keys lie ahead of it.
func entriesIn(x map[string]string, s api.Span) (l []string, ahead uint64) {
	for _, k := range slices.Sorted(maps.Keys(x)) {
		if isIn(s, k) {
			l = append(l, entryWords(k, x[k]))
		}
		if k < string(s.Lo) {
			ahead++
		}
	}
	return l, ahead
}

func ranged(x map[string]string, s api.Span, most int) string {
	if no := unfit(s); no != "" {
		return no
	}
	if most < 1 || most > 4096 {
		return refused(api.ErrMost)
	}
	l, _ := entriesIn(x, s)
	return listWords(l[:min(len(l), most)], len(l) > most)
}

func (m *model) Get(session int, key string) string {
	p, no := m.session(session)
	if no != "" {
		return no
	}
	return get(m.sees(p), key)
}

func (m *model) Range(session int, s api.Span, most int) string {
	p, no := m.session(session)
	if no != "" {
		return no
	}
	return ranged(m.sees(p), s, most)
}

func (m *model) Commit(session int) string {
	p, no := m.session(session)
	if no != "" {
		return no
	}
	if len(p.edits) == 0 {
		delete(m.sessions, session)
		return fmt.Sprint(p.base)
	}
	base, newest := m.maps[p.base], m.maps[m.newest()]
	for _, k := range slices.Sorted(maps.Keys(p.edits)) {
		old, was := base[k]
		now, is := newest[k]
		if was != is || old != now {
			return lost(k)
		}
	}
	delete(m.sessions, session)
	m.grow(behind(newest, p.edits))
	return fmt.Sprint(m.newest())
}

func (m *model) Abort(session int) string {
	if m.closed {
		return refused(api.ErrDead)
	}
	if m.sessions[session] == nil {
		return refused(api.ErrSession)
	}
	delete(m.sessions, session)
	return told(nil)
}

func (m *model) Sessions() string { return fmt.Sprint(slices.Sorted(maps.Keys(m.sessions))) }

func (m *model) Versions() string {
	if m.closed {
		return refused(api.ErrDead)
	}
	words := ""
	for n := m.oldest; n <= m.newest(); n++ {
		words += versionWords(uint64(n), uint64(len(m.maps[n])), m.labels[n])
	}
	return words
}

func (m *model) GetAt(version uint64, key string) string {
	x, no := m.version(version)
	if no != "" {
		return no
	}
	return get(x, key)
}

func (m *model) RangeAt(version uint64, s api.Span, most int) string {
	x, no := m.version(version)
	if no != "" {
		return no
	}
	return ranged(x, s, most)
}

func (m *model) Each(version uint64, s api.Span) string {
	x, no := m.version(version)
	if no == "" {
		no = unfit(s)
	}
	if no != "" {
		return no
	}
	l, _ := entriesIn(x, s)
	return strings.Join(l, ", ")
}

func (m *model) Diff(from, to uint64) string {
	old, no := m.version(from)
	if no != "" {
		return no
	}
	now, no := m.version(to)
	if no != "" {
		return no
	}
	both := maps.Clone(old)
	maps.Copy(both, now)
	words := ""
	for _, k := range slices.Sorted(maps.Keys(both)) {
		x, had := old[k]
		y, has := now[k]
		if had != has || x != y {
			words += changeWords(k, had, x, has, y)
		}
	}
	return words
}

func (m *model) ProveAt(version uint64, s api.Span) string {
	x, no := m.version(version)
	if no == "" {
		no = unfit(s)
	}
	if no != "" {
		return no
	}
	l, ahead := entriesIn(x, s)
	return provenWords(l, ahead, uint64(len(x)))
}

// leaves are those of the annals: one for each version that ever was.
func (m *model) leaves() []api.Leaf {
	var l []api.Leaf
	for i, label := range m.labels {
		l = append(l, api.Leaf{Version: uint64(i), Label: label})
	}
	return l
}

func (m *model) Head() string {
	if m.closed {
		return refused(api.ErrDead)
	}
	return headWords(annals.Over(m.leaves()))
}

// half is where a list of leaves is cut: behind the greatest power of 2 that is less than its length.
func half(n int) int {
	k := 1
	for 2*k < n {
		k *= 2
	}
	return k
}

func over(l []api.Leaf) api.Sum { return annals.Over(l).Label }

// path is chapter 13's of a leaf.
func path(l []api.Leaf, i int) []api.Sum {
	if len(l) == 1 {
		return nil
	}
	if k := half(len(l)); i < k {
		return append(path(l[:k], i), over(l[k:]))
	} else {
		return append(path(l[k:], i-k), over(l[:k]))
	}
}

// steps is chapter 13's path from the first leaves to all.
func steps(l []api.Leaf, n int, whole bool) []api.Sum {
	if n == len(l) {
		if whole {
			return nil
		}
		return []api.Sum{over(l)}
	}
	if k := half(len(l)); n <= k {
		return append(steps(l[:k], n, whole), over(l[k:]))
	} else {
		return append(steps(l[k:], n-k, false), over(l[:k]))
	}
}

func (m *model) Included(version uint64) string {
	switch {
	case m.closed:
		return refused(api.ErrDead)
	case version > uint64(m.newest()):
		return at(version, api.ErrVersion)
	}
	return pathWords(path(m.leaves(), int(version)))
}

func (m *model) Extends(size uint64) string {
	switch {
	case m.closed:
		return refused(api.ErrDead)
	case size > uint64(len(m.maps)):
		return refused(api.ErrLeaf)
	case size == 0:
		return pathWords(nil)
	}
	return pathWords(steps(m.leaves(), int(size), true))
}

func (m *model) Retain(window int) string {
	switch {
	case m.closed:
		return refused(api.ErrDead)
	case window < 1 || window > 64:
		return refused(api.ErrWindow)
	}
	m.window = window
	m.drop()
	return told(nil)
}

func (m *model) Close() string {
	if m.closed {
		return refused(api.ErrDead)
	}
	m.closed, m.sessions = true, map[int]*played{}
	return told(nil)
}

// everything is all that can be read, of all sessions and versions, kept or not, and of the annals.
func everything(a answers, sessions []int, versions uint64) string {
	l := []string{a.Sessions(), a.Versions(), a.Head()}
	for _, n := range sessions {
		l = append(l, a.Range(n, all, 4096), a.Range(n, span("b", "d"), 2))
	}
	for n := range versions + 2 {
		l = append(l, a.RangeAt(n, all, 4096), a.Each(n, all), a.Included(n), a.Extends(n))
		l = append(l, a.ProveAt(n, all), a.ProveAt(n, span("b", "d")), a.Diff(n, versions-min(versions, 1)), a.Diff(versions-min(versions, 1), n))
	}
	return strings.Join(l, "\n")
}
