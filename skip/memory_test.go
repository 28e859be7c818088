package skip_test

import (
	"bytes"
	"slices"
	"testing"

	"witness/api"
	"witness/skip"
)

// roomy is a text with spare room, in which something stands.
func roomy(text string) []byte {
	b := append([]byte(text), "spare"...)
	return b[:len(text)]
}

// isRoomy tells whether a text and its spare room are as roomy made them.
func isRoomy(b []byte, text string) bool {
	return string(b) == text && string(b[:len(b)+5]) == text+"spare"
}

// scratch overwrites a text, with its spare room.
func scratch(b []byte) {
	b = b[:cap(b)]
	for i := range b {
		b[i] ^= 0xa5
	}
}

// TestWhatIsHandedIn is neither changed nor kept.
func TestWhatIsHandedIn(t *testing.T) {
	s := wide(t)
	x := s.empty()
	m := map[string]string{}
	for _, text := range []string{"c", "a", "", "b", "e"} {
		key, value := roomy(text), roomy("value of "+text)
		for range 2 {
			y, e := skip.Put(s.b, x, key, value)
			answers(t, "8.5: Put", e, api.OK)
			x = y
		}
		_, _, e := skip.Get(s.b, x, key)
		answers(t, "8.3: Get", e, api.OK)
		_, _, e = skip.Floor(s.b, x, key)
		answers(t, "8.4: Floor", e, api.OK)
		_, e = skip.Path(s.b, x, key)
		answers(t, "8.4: Path", e, api.OK)
		_, _, e = skip.Delete(s.b, x, key)
		answers(t, "8.6: Delete", e, api.OK)
		if !isRoomy(key, text) || !isRoomy(value, "value of "+text) {
			t.Errorf("0.4: what was handed in is now %q, %q", key, value)
		}
		m[text] = "value of " + text
		scratch(key)
		scratch(value)
		s.holds(x, m)
	}
}

// TestWhatIsHandedOut is new memory.
func TestWhatIsHandedOut(t *testing.T) {
	s := wide(t)
	m := mapOf("a", "1", "b", "2", "c", "3", "d", "4", "e", "5", "ee", "6")
	x := s.built(m)
	key := roomy("e")
	value, _, _ := skip.Get(s.b, x, key)
	entry, _, _ := skip.Floor(s.b, x, key)
	scratch(value)
	if string(entry.Value) != "5" {
		t.Errorf("0.4: two answers share a value")
	}
	scratch(entry.Key)
	if string(entry.Value) != "5" || !isRoomy(key, "e") {
		t.Errorf("0.4: a key shares memory with a value or with what was handed in")
	}
	scratch(entry.Value)
	s.holds(x, m)
}

// TestPathsAreNewMemory: no two texts or lists of one answer share any, nor those of two answers.
func TestPathsAreNewMemory(t *testing.T) {
	s := wide(t)
	m := map[string]string{lowest: "low"}
	for _, key := range byLevel[:12] {
		m[key] = key
	}
	x := s.built(m)
	p := planOf(m)
	key := p.keys[len(p.keys)-2] + "x"
	want := p.path(key)
	other, _ := skip.Path(s.b, x, []byte(key))
	got, e := skip.Path(s.b, x, []byte(key))
	if e != api.OK || len(got) != len(want) || len(got) < 3 {
		t.Fatalf("8.4: Path = %d towers, %d", len(got), e)
	}
	for i := range got {
		for j := range got[i].Kids {
			scratch(got[i].Kids[j].Key)
			got[i].Kids[j].Key = bytes.Clone(want[i].Kids[j].Key)
			if !slices.EqualFunc(got, want, sameTower) {
				t.Fatalf("0.4: the key of the kid %d of the tower %d shares memory", j, i)
			}
		}
		spare := got[i].Kids[len(got[i].Kids):cap(got[i].Kids)]
		for j := range spare {
			spare[j].Level = 99
		}
		kids := got[i].Kids
		got[i].Kids = slices.Clone(kids)
		for j := range kids {
			kids[j].Level = 99
		}
		scratch(got[i].Key)
		got[i].Key = bytes.Clone(want[i].Key)
		if !slices.EqualFunc(got, want, sameTower) {
			t.Fatalf("0.4: the lists of the tower %d share memory", i)
		}
	}
	if !slices.EqualFunc(other, want, sameTower) {
		t.Errorf("0.4: two answers of Path share memory")
	}
	s.holds(x, m)
}
