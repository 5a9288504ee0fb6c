package check

import (
	"slices"
	"strconv"

	"canticle/api"
	"canticle/fold"
	"canticle/line"
	"canticle/poem"
	"canticle/rhyme"
	"canticle/scan"
	"canticle/scheme"
	"canticle/word"
)

// speech is a line as it is spoken, or the error that it can't be; done, when that has been asked.
type speech struct {
	done bool
	line *line.Line
	err  api.Errno
}

// held is a poem that is held against a form.
type held struct {
	*Judge
	poem     *poem.Poem
	texts    []string
	speeches []speech
	fits     bool
	demands  []api.Demand
	scheme   api.Scheme
	clashes  []api.Clash
	stanza   int // the first line that stands in another stanza than it is to; -1: none does
}

func (j *Judge) hold(p *poem.Poem) *held {
	h := &held{Judge: j, poem: p, speeches: make([]speech, p.Lines()), stanza: -1}
	rounds := 0
	rounds, h.fits = j.form.Fit(p.Lines())
	if h.fits {
		h.demands, _ = j.form.Lines(rounds)
		h.scheme, _ = j.form.Scheme(rounds)
	}
	for k, v := range p.Each() {
		h.texts = append(h.texts, v.Text)
		if h.fits && h.stanza < 0 && v.Stanza != h.demands[k].Stanza {
			h.stanza = k
		}
	}
	return h
}

// speech is a line's speech.
func (h *held) speech(k int) speech {
	s := &h.speeches[k]
	if !s.done {
		s.line, s.err = line.New(h.lexicon, h.taste.Stress, h.texts[k])
		s.done = true
	}
	return *s
}

// rhymes is the form of a line's last word by which it rhymes; false, if there is none.
func (h *held) rhymes(k int) (api.Said, bool) {
	s := h.speech(k)
	if s.err != api.OK || s.line.Words() == 0 {
		return api.Said{}, false
	}
	forms, _ := s.line.Forms(s.line.Words() - 1)
	return forms[0], true
}

// keys are the keys of all lines.
func (h *held) keys() []int {
	keys := make([]int, len(h.texts))
	var forms []api.Said
	var at []int
	none := 0
	for k := range keys {
		f, ok := h.rhymes(k)
		if !ok {
			none--
			keys[k] = none
			continue
		}
		forms, at = append(forms, f), append(at, k)
	}
	web, _ := rhyme.Web(forms, h.taste.Near)
	for n, k := range at {
		keys[k] = web[n]
	}
	return keys
}

// first is the first line of the class that the form gives to a line; the line itself, if it has none.
func (h *held) first(k int) int {
	r := h.scheme.Lines[k]
	if r.Class < 0 {
		return k
	}
	return slices.IndexFunc(h.scheme.Lines, func(s api.Rhyme) bool { return s.Class == r.Class })
}

// rhyme finds which lines rhyme against the form, of those that are needed. If only what is the same rhymes, no other line has a say in that.
func (h *held) rhyme(needed func(k int) bool) {
	keys := make([]string, len(h.texts))
	if h.taste.Near > 0 {
		for k, n := range h.keys() {
			keys[k] = strconv.Itoa(n)
		}
	} else {
		for k := range keys {
			keys[k] = strconv.Itoa(-1 - k)
			if !needed(k) {
				continue
			}
			if f, ok := h.rhymes(k); ok {
				keys[k], _ = rhyme.Key(f)
			}
		}
	}
	h.clashes, _ = scheme.Faults(h.scheme, keys...)
}

// lacks is what a line lacks: one thing after the other is asked of it.
func (h *held) lacks(k int) []api.Lack {
	var l []api.Lack
	for _, ask := range []func(k int, d api.Demand) []api.Lack{h.stands, h.spoken, h.same, h.ends, h.has, h.begins, h.rhymed} {
		for _, x := range ask(k, h.demands[k]) {
			x.Line = k
			l = append(l, x)
		}
	}
	return l
}

// lack is a lack of which nothing is told but its error and the other line.
func lack(e api.Errno, with int) []api.Lack { return []api.Lack{{Err: e, With: with}} }

// stands asks for the stanza.
func (h *held) stands(k int, d api.Demand) []api.Lack {
	if k != h.stanza {
		return nil
	}
	v, _ := h.poem.Line(k)
	return []api.Lack{{Err: api.ErrStanza, With: -1, Got: v.Stanza, Want: d.Stanza}}
}

// spoken asks whether a line can be spoken, scanned, and how many beats it has.
func (h *held) spoken(k int, d api.Demand) []api.Lack {
	if d.Metre < 0 && d.Syllables == 0 {
		return nil
	}
	s := h.speech(k)
	if s.err != api.OK {
		return lack(s.err, -1)
	}
	var l []api.Lack
	if d.Metre >= 0 {
		cost, _, e := scan.Least(s.line, h.metres[d.Metre], h.taste.Rates)
		if e != api.OK {
			l = lack(api.ErrScan, -1)
		} else if cost > h.taste.Most {
			l = []api.Lack{{Err: api.ErrDear, With: -1, Got: cost, Want: h.taste.Most}}
		}
	}
	if d.Syllables > 0 && s.line.With(d.Syllables) == 0 {
		few, _ := s.line.Span()
		l = append(l, api.Lack{Err: api.ErrCount, With: -1, Got: few, Want: d.Syllables})
	}
	return l
}

// same asks for the line that comes again.
func (h *held) same(k int, d api.Demand) []api.Lack {
	if d.Same < 0 || fold.Same(word.Plain(h.texts[k]), word.Plain(h.texts[d.Same])) {
		return nil
	}
	return lack(api.ErrSame, d.Same)
}

// last is a line's last word.
func (h *held) last(k int) (string, bool) {
	last, ok := "", false
	for w := range word.Words(h.texts[k]) {
		last, ok = h.texts[k][w.From:w.To], true
	}
	return last, ok
}

// ends asks for the word with which the line ends.
func (h *held) ends(k int, d api.Demand) []api.Lack {
	if d.Ends < 0 {
		return nil
	}
	a, is := h.last(k)
	b, was := h.last(d.Ends)
	if is && was && fold.Same(a, b) {
		return nil
	}
	return lack(api.ErrEnds, d.Ends)
}

// has asks for words of other lines.
func (h *held) has(k int, d api.Demand) []api.Lack {
	var l []api.Lack
numbers:
	for _, n := range d.Has {
		if last, ok := h.last(n); ok {
			for w := range word.Words(h.texts[k]) {
				if fold.Same(h.texts[k][w.From:w.To], last) {
					continue numbers
				}
			}
		}
		l = append(l, lack(api.ErrHas, n)...)
	}
	return l
}

// begins asks for the first letter.
func (h *held) begins(k int, d api.Demand) []api.Lack {
	if d.Begins == 0 {
		return nil
	}
	if w, ok := word.Nth(h.texts[k], 0); ok {
		for _, r := range fold.Fold(h.texts[k][w.From:w.To]) {
			if r == d.Begins {
				return nil
			}
			break
		}
	}
	return lack(api.ErrBegins, -1)
}

// rhymed asks for the rhyme.
func (h *held) rhymed(k int, d api.Demand) []api.Lack {
	for _, c := range h.clashes {
		if c.Line == k && (c.Err == api.ErrUnlike || h.taste.Apart) {
			return lack(c.Err, c.With)
		}
	}
	return nil
}
