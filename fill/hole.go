package fill

import (
	"strconv"
	"strings"

	"canticle/api"
	"canticle/class"
	"canticle/poem"
)

// kinds are the kinds of words, rising.
const kinds = "acdimnprtv"

// isRow tells whether a text is a row of kinds.
func isRow(s string) bool {
	last := -1
	for _, r := range s {
		k := strings.IndexByte(kinds, byte(r))
		if k <= last {
			return false
		}
		last = k
	}
	return true
}

// holes are those of a line's text; the last one is right, if no error is told.
func holes(line int, text string) ([]api.Hole, api.Errno) {
	var l []api.Hole
	from := -1 // where the hole is that is being read; -1: none is
	blank := false
pieces:
	for at, r := range text {
		begins := r == '_' && !blank
		blank = r == '_'
		switch {
		case from < 0:
			if begins {
				from = at
			}
			continue pieces
		case within(text[from:at], r):
			continue pieces
		}
		// Nothing of a word may stand behind a hole, nor another blank to be filled.
		h, ok := hole(line, text, from, at)
		if k := class.Kind(r); !ok || r == '_' || k == api.KindLetter || k == api.KindDigit {
			return l, api.ErrHole
		}
		l, from = append(l, h), -1
	}
	if from >= 0 {
		h, ok := hole(line, text, from, len(text))
		if !ok {
			return l, api.ErrHole
		}
		l = append(l, h)
	}
	return l, api.OK
}

// within tells whether a hole of which so much was read goes on over a rune.
func within(hole string, r rune) bool {
	last := hole[len(hole)-1]
	if r >= '0' && r <= '9' {
		return true
	}
	return r >= 'a' && r <= 'z' && (last < '0' || last > '9')
}

// hole is the hole that a text has from one place to another one; false, if it is not right.
func hole(line int, text string, from, to int) (api.Hole, bool) {
	body := text[from+1 : to]
	n := 0
	for n < len(body) && body[n] >= 'a' {
		n++
	}
	h := api.Hole{Line: line, Span: api.Span{From: from, To: to}, Kinds: body[:n]}
	if n < len(body) {
		count, err := strconv.Atoi(body[n:])
		if err != nil || strconv.Itoa(count) != body[n:] || count < 1 || count > api.MaxSyllables {
			return api.Hole{}, false
		}
		h.Syllables = count
	}
	return h, isRow(h.Kinds)
}

// Holes: P25.1.
func Holes(p *poem.Poem) ([]api.Hole, api.Errno) {
	if p == nil {
		return nil, api.ErrNil
	}
	var all []api.Hole
	for k, v := range p.Each() {
		l, e := holes(k, v.Text)
		if len(all)+len(l) > api.MaxHoles {
			return nil, api.ErrLong
		}
		if e != api.OK {
			return nil, e
		}
		all = append(all, l...)
	}
	return all, api.OK
}

// laid is the whole line of a poem, with words in the place of its first holes. Of a poem's holes words are for the first ones, as many as there are words.
func laid(p *poem.Poem, line int, all []api.Hole, words []string) string {
	v, _ := p.Line(line)
	out := []byte(strings.Repeat(" ", v.Indent))
	at := 0
	for k, h := range all[:len(words)] {
		if h.Line == line {
			out = append(append(out, v.Text[at:h.Span.From]...), words[k]...)
			at = h.Span.To
		}
	}
	return string(append(out, v.Text[at:]...))
}

// Lay: P25.2.
func Lay(p *poem.Poem, words ...string) (*poem.Poem, api.Errno) {
	all, e := Holes(p)
	if e != api.OK {
		return nil, e
	}
	if len(words) != len(all) {
		return nil, api.ErrArg
	}
	out := p
	for k, h := range all {
		if k > 0 && all[k-1].Line == h.Line {
			continue
		}
		if out, e = out.Set(h.Line, laid(p, h.Line, all, words)); e != api.OK {
			return nil, e
		}
	}
	return out, api.OK
}
