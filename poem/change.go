package poem

import (
	"slices"

	"canticle/api"
)

// Same: P17.7.
func (p *Poem) Same(q *Poem) bool {
	if p == nil || q == nil || p.title != q.title {
		return false
	}
	return slices.EqualFunc(p.verses, q.verses, func(v, w api.Verse) bool {
		return v.Text == w.Text && v.Indent == w.Indent && v.Stanza == w.Stanza
	})
}

// Set: P17.8.
func (p *Poem) Set(k int, line string) (*Poem, api.Errno) {
	if _, e := p.Line(k); e != api.OK {
		return nil, e
	}
	if !isLine(line) {
		return nil, api.ErrVerse
	}
	verses := slices.Clone(p.verses)
	in := indent(line)
	verses[k].Text, verses[k].Indent = line[in:], in
	return build(p.title, verses)
}

// Cut: P17.8.
func (p *Poem) Cut(from, to int) (*Poem, api.Errno) {
	if p == nil {
		return nil, api.ErrNil
	}
	if from < 0 || to < from || to > len(p.verses) {
		return nil, api.ErrRange
	}
	return build(p.title, p.verses[from:to])
}

// Join: P17.8.
func (p *Poem) Join(q *Poem) (*Poem, api.Errno) {
	if p == nil || q == nil {
		return nil, api.ErrNil
	}
	verses := slices.Concat(p.verses, q.verses)
	for k := range q.verses {
		verses[len(p.verses)+k].Stanza += len(p.stanzas)
	}
	return build(p.title, verses)
}
