package vault_test

import (
	"fmt"
	"strings"

	"witness/api"
	"witness/vault"
	"witness/verify"
)

// answers are all calls of a vault, each answered in words: those of a vault that is asked, and those of a model.
type answers interface {
	Begin() string
	BeginAt(version uint64) string
	Put(session int, key, value string) string
	Delete(session int, key string) string
	Batch(session int, l []api.Edit) string
	Get(session int, key string) string
	Range(session int, s api.Span, most int) string
	Commit(session int) string
	Abort(session int) string
	Sessions() string
	Versions() string
	GetAt(version uint64, key string) string
	RangeAt(version uint64, s api.Span, most int) string
	Each(version uint64, s api.Span) string
	Diff(from, to uint64) string
	ProveAt(version uint64, s api.Span) string
	Head() string
	Included(version uint64) string
	Extends(size uint64) string
	Retain(window int) string
	Close() string
}

// asked is a vault whose answers are told in words.
type asked struct{ v *vault.Vault }

// or is a told answer, or the error in its place; with an error each other result must be zero.
func or(err error, zero bool, words string) string {
	switch {
	case err == nil:
		return words
	case !zero:
		return "an answer with " + told(err) + ": " + words
	}
	return told(err)
}

func numberOr[N int | uint64](n N, err error) string { return or(err, n == 0, fmt.Sprint(n)) }

func valueWords(value string, there bool) string { return fmt.Sprint(text(value), " ", there) }

func valueOr(value []byte, there bool, err error) string {
	return or(err, value == nil && !there, valueWords(string(value), there))
}

func entryWords(key, value string) string { return text(key) + " = " + text(value) }

func listWords(l []string, more bool) string {
	return fmt.Sprint(strings.Join(l, ", "), " more: ", more)
}

func listOr(l []api.Entry, more bool, err error) string {
	var words []string
	for _, e := range l {
		words = append(words, entryWords(string(e.Key), string(e.Value)))
	}
	return or(err, l == nil && !more, listWords(words, more))
}

func pathOr(l []api.Sum, err error) string { return or(err, l == nil, pathWords(l)) }

func pathWords(l []api.Sum) string {
	words := fmt.Sprint(len(l), " labels")
	for _, s := range l {
		words += fmt.Sprintf(" %x", s[:8])
	}
	return words
}

func versionWords(number, count uint64, label api.Sum) string {
	return fmt.Sprintf("%d: %d keys, %x; ", number, count, label)
}

func headWords(h api.Head) string { return fmt.Sprintf("%d, %x", h.Size, h.Label) }

func changeWords(key string, had bool, was string, has bool, now string) string {
	return fmt.Sprint(text(key), " ", had, " ", text(was), " ", has, " ", text(now), "; ")
}

func provenWords(l []string, rank, count uint64) string {
	return fmt.Sprint(strings.Join(l, ", "), "; rank ", rank, " of ", count)
}

func (a asked) Begin() string { return numberOr(a.v.Begin()) }

func (a asked) BeginAt(version uint64) string { return numberOr(a.v.BeginAt(version)) }

func (a asked) Put(session int, key, value string) string {
	return told(a.v.Put(session, []byte(key), []byte(value)))
}

func (a asked) Delete(session int, key string) string { return told(a.v.Delete(session, []byte(key))) }

func (a asked) Batch(session int, l []api.Edit) string { return told(a.v.Batch(session, l)) }

func (a asked) Get(session int, key string) string { return valueOr(a.v.Get(session, []byte(key))) }

func (a asked) Range(session int, s api.Span, most int) string {
	return listOr(a.v.Range(session, s, most))
}

func (a asked) Commit(session int) string { return numberOr(a.v.Commit(session)) }

func (a asked) Abort(session int) string { return told(a.v.Abort(session)) }

func (a asked) Sessions() string { return fmt.Sprint(a.v.Sessions()) }

func (a asked) Versions() string {
	l, err := a.v.Versions()
	words := ""
	for _, x := range l {
		words += versionWords(x.Number, x.Tree.Count, x.Tree.Label)
	}
	return or(err, l == nil, words)
}

func (a asked) GetAt(version uint64, key string) string {
	return valueOr(a.v.GetAt(version, []byte(key)))
}

func (a asked) RangeAt(version uint64, s api.Span, most int) string {
	return listOr(a.v.RangeAt(version, s, most))
}

// Each tells an error with what came with it and behind it.
func (a asked) Each(version uint64, s api.Span) string {
	var words []string
	for e, err := range a.v.Each(version, s) {
		if err != nil && e.Key == nil && e.Value == nil {
			words = append(words, told(err))
			continue
		}
		words = append(words, or(err, false, entryWords(string(e.Key), string(e.Value))))
	}
	return strings.Join(words, ", ")
}

func (a asked) Diff(from, to uint64) string {
	l, err := a.v.Diff(from, to)
	words := ""
	for _, c := range l {
		words += changeWords(string(c.Key), c.Had, string(c.Old), c.Has, string(c.New))
	}
	return or(err, l == nil, words)
}

// ProveAt tells what a proof shows.
func (a asked) ProveAt(version uint64, s api.Span) string {
	proof, err := a.v.ProveAt(version, s)
	if err != nil {
		return or(err, proof == nil, "a proof")
	}
	l, _ := a.v.Versions()
	for _, x := range l {
		if x.Number == version {
			shown, e := verify.Span(x.Tree.Label, s, proof)
			var words []string
			for _, e := range shown.Entries {
				words = append(words, entryWords(string(e.Key), string(e.Value)))
			}
			return or(none(e), false, provenWords(words, shown.Rank, shown.Count))
		}
	}
	return "a proof of a version that is not there"
}

func none(e api.Errno) error {
	if e == api.OK {
		return nil
	}
	return e
}

func (a asked) Head() string {
	h, err := a.v.Head()
	return or(err, h == api.Head{}, headWords(h))
}

func (a asked) Included(version uint64) string { return pathOr(a.v.Included(version)) }

func (a asked) Extends(size uint64) string { return pathOr(a.v.Extends(size)) }

func (a asked) Retain(window int) string { return told(a.v.Retain(window)) }

func (a asked) Close() string { return told(a.v.Close()) }
