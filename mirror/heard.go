package mirror

import (
	"witness/annals"
	"witness/api"
	"witness/node"
	"witness/verify"
)

// heardHead takes the answer to AskHead: only a head that can have become of the trusted one is gone on with.
func (m *Mirror) heardHead(answer api.Message) error {
	head := answer.Head
	switch {
	case answer.Kind == api.SayNo:
		return api.ErrRefused
	case head.Size != answer.Version+1, head.Size < m.trusted.Size, head.Size == m.trusted.Size && head != m.trusted:
		return api.ErrTrust
	}
	m.round.news = answer
	if m.hasGrown() {
		return m.ask(api.Message{Kind: api.AskExtends, Other: m.trusted.Size}, (*Mirror).heardExtends)
	}
	return m.askLeaf()
}

// heardExtends takes the answer to AskExtends.
func (m *Mirror) heardExtends(answer api.Message) error {
	switch {
	case answer.Kind == api.SayNo:
		return api.ErrRefused
	case annals.Extends(m.trusted, m.round.news.Head, answer.Path) != api.OK:
		return api.ErrTrust
	}
	return m.askLeaf()
}

// heardLeaf takes the answer to AskLeaf: from here on the new version's label is one that the annals show.
func (m *Mirror) heardLeaf(answer api.Message) error {
	news := m.round.news
	leaf := api.Leaf{Version: news.Version, Label: news.Label}
	switch {
	case answer.Kind == api.SayNo:
		return api.ErrRefused
	case annals.Included(news.Head, news.Version, leaf, answer.Path) != api.OK:
		return api.ErrTrust
	}
	copied, err := newest(m.vault)
	switch {
	case err != nil:
		return err
	case copied.Tree.Label == news.Label && copied.Tree.Count == news.Count:
		return m.endsWell()
	case m.hasGrown():
		return m.ask(api.Message{Kind: api.AskDelta, Other: m.trusted.Size - 1, Version: news.Version}, (*Mirror).heardDelta)
	}
	return m.askProof()
}

// heardDelta takes the answer to AskDelta: it need not be shown to be right, as the map that comes of it has the right label or is not taken.
func (m *Mirror) heardDelta(answer api.Message) error {
	old, err := m.copied()
	if err != nil {
		return err
	}
	if answer.Kind != api.SayNo {
		if now := changed(old, answer.Changes); m.isNew(now) {
			return m.become(old, now)
		}
	}
	return m.askProof()
}

// heardProof takes the answer to AskProof.
func (m *Mirror) heardProof(answer api.Message) error {
	if answer.Kind == api.SayNo {
		return m.askHalves(answer.Code)
	}
	r := m.round
	rest := len(r.wanted) - 1
	shown, errno := verify.Span(r.news.Label, r.wanted[rest], answer.Body)
	if errno != api.OK {
		return api.ErrTrust
	}
	r.shown, r.wanted = append(r.shown, shown.Entries...), r.wanted[:rest]
	switch {
	case rest > 0:
		return m.askProof()
	case !m.isNew(r.shown): // each proof alone shows no more than that the label says so: a label of no map may say anything
		return api.ErrTrust
	}
	old, err := m.copied()
	if err != nil {
		return err
	}
	return m.become(old, r.shown)
}

// hasGrown tells whether something is trusted, and the new head is a greater one.
func (m *Mirror) hasGrown() bool {
	return m.trusted.Size > 0 && m.trusted.Size < m.round.news.Head.Size
}

// isNew tells whether a list of entries is the new version's map.
func (m *Mirror) isNew(l []api.Entry) bool {
	label, errno := node.Root(l)
	return errno == api.OK && label == m.round.news.Label
}

func (m *Mirror) askLeaf() error {
	return m.ask(api.Message{Kind: api.AskLeaf, Version: m.round.news.Version}, (*Mirror).heardLeaf)
}

// askProof asks for the proof of the wanted span.
func (m *Mirror) askProof() error {
	r := m.round
	wanted := r.wanted[len(r.wanted)-1]
	return m.ask(api.Message{Kind: api.AskProof, Version: r.news.Version, Span: wanted}, (*Mirror).heardProof)
}

// askHalves asks for the wanted span in two pieces, if it is too much for one proof.
func (m *Mirror) askHalves(code api.Errno) error {
	r := m.round
	last := len(r.wanted) - 1
	lower, upper, ok := halves(r.wanted[last])
	if code != api.ErrProof || !ok {
		return api.ErrRefused
	}
	r.wanted = append(r.wanted[:last], upper, lower)
	return m.askProof()
}
