package mirror

import (
	"witness/api"
	"witness/codec"
	"witness/vault"
)

// Serve is the answer of a vault to a message.
func Serve(v *vault.Vault, message []byte) []byte {
	question, errno := codec.ReadMessage(message)
	if errno != api.OK {
		return refusal(errno)
	}
	answer, err := answerTo(v, question)
	if err != nil {
		return refusal(errnoOf(err))
	}
	b := codec.Message(answer)
	if len(b) > api.MaxMessage {
		return refusal(api.ErrLong)
	}
	return b
}

func refusal(errno api.Errno) []byte {
	return codec.Message(api.Message{Kind: api.SayNo, Code: errno})
}

// answerTo is what a vault says to a question.
func answerTo(v *vault.Vault, question api.Message) (api.Message, error) {
	answer := api.Message{Kind: question.Kind + saying}
	var err error
	switch question.Kind {
	case api.AskHead:
		return newestOf(v)
	case api.AskProof:
		answer.Body, err = v.ProveAt(question.Version, question.Span)
	case api.AskLeaf:
		answer.Path, err = v.Included(question.Version)
	case api.AskExtends:
		answer.Path, err = v.Extends(question.Other)
	case api.AskDelta:
		answer.Changes, err = v.Diff(question.Other, question.Version)
	default:
		err = api.ErrMessage
	}
	return answer, err
}

// newestOf tells of a vault's newest version, and of the head of its annals.
func newestOf(v *vault.Vault) (api.Message, error) {
	version, err := newest(v)
	if err != nil {
		return api.Message{}, err
	}
	head, err := v.Head()
	return api.Message{Kind: api.SayHead, Version: version.Number, Label: version.Tree.Label, Count: version.Tree.Count, Head: head}, err
}

// newest is the newest version of a vault.
func newest(v *vault.Vault) (api.Version, error) {
	versions, err := v.Versions()
	if err != nil {
		return api.Version{}, err
	}
	return versions[len(versions)-1], nil // the newest one is kept always
}
