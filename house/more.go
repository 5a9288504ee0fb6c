package house

import (
	"canticle/api"
	"canticle/chant"
	"canticle/count"
	"canticle/edit"
	"canticle/fill"
	"canticle/find"
	"canticle/page"
	"canticle/poem"
	"canticle/witness"
)

func (h *House) doFill(a asked) string {
	p, f := h.own(a.words[0]).poem, h.form(a.words[1])
	z, e := fill.New(h.lexicon, h.vocab, f, h.taste)
	must(e)
	words, steps, e := z.First(p, a.numbers[2])
	must(e)
	q, e := fill.Lay(p, words...)
	must(e)
	h.full(a.words[3])
	h.shelve(a.words[3], q)
	out := []string{word(steps)}
	for _, w := range words {
		out = append(out, Quote(w))
	}
	return answer(out...)
}

// tally is the tally of a poem.
func tally(p *poem.Poem) *count.Tally {
	t, e := count.Of(p)
	must(e)
	return t
}

func (h *House) doTally(a asked) string {
	p := h.own(a.words[0]).poem
	left := a.numbers[1]
	refuse(left < 0, api.ErrArg)
	t := tally(p)
	out := []string{word(t.Len()), word(t.Total())}
	for w, n := range t.Each() {
		if left == 0 {
			break
		}
		left--
		out = append(out, Quote(w), word(n))
	}
	return answer(out...)
}

func (h *House) doWeigh(a asked) string {
	p := h.own(a.words[0]).poem
	t := tally(p)
	l, _ := count.Lengths(p, api.InWords)
	return answer(float(t.Rate()), float(t.Entropy()), float(count.Mean(l)), float(count.Spread(l)))
}

func (h *House) doCosine(a asked) string {
	p, q := h.own(a.words[0]).poem, h.own(a.words[1]).poem
	return float(count.Cosine(tally(p), tally(q)))
}

func (h *House) doPlaces(a asked) string {
	var out []string
	for _, x := range h.poems().Places(a.words[0]) {
		out = append(out, slashed(Quote(h.shelf[x.Poem].name), word(x.Line), word(x.Word)))
	}
	return answer(out...)
}

// finder is a finder of all poems' words.
func (h *House) finder() *find.Finder {
	f, e := find.New(h.poems(), h.lexicon)
	must(e)
	return f
}

func (h *House) doFind(a asked) string {
	q, bad := find.Parse(a.words[0])
	mustRead(bad)
	var out []string
	for p, line := range h.finder().Lines(q) {
		out = append(out, slashed(Quote(h.shelf[p].name), word(line)))
	}
	return answer(out...)
}

func (h *House) doGuess(a asked) string {
	key, edits, e := h.finder().Guess(a.words[0])
	must(e)
	return answer(Quote(key), word(edits))
}

func (h *House) doSort(a asked) string {
	var out []string
	for _, k := range h.order.Sort(a.words...) {
		out = append(out, Quote(a.words[k]))
	}
	return answer(out...)
}

func (h *House) doChange(a asked) string {
	own := h.own(a.words[0])
	c, bad := edit.Read(a.words[1])
	mustRead(bad)
	text, e := edit.Apply(own.poem.Source(), c)
	must(e)
	p, bad := poem.Read(text)
	mustRead(bad)
	own.poem = p
	return told(p)
}

func (h *House) doBetween(a asked) string {
	p, q := h.own(a.words[0]).poem, h.own(a.words[1]).poem
	c, e := edit.Between(p.Source(), q.Source())
	must(e)
	text, e := edit.Print(c)
	must(e)
	return Quote(text)
}

func (h *House) doKeep(a asked) string {
	own := h.own(a.words[0])
	past := own.past()
	n, e := past.Commit(a.words[1], a.numbers[2], own.poem.Source())
	must(e)
	own.history = past
	return word(n)
}

func (h *House) doFork(a asked) string {
	own := h.own(a.words[0])
	past := own.past()
	must(past.Branch(a.words[1], a.numbers[2]))
	own.history = past
	return "ok"
}

func (h *House) doWeave(a asked) string {
	own := h.own(a.words[0])
	past := own.past()
	n, conflicts, e := past.Merge(a.words[1], a.words[2], a.numbers[3])
	must(e)
	own.history = past
	return answer(word(n), word(len(conflicts)))
}

func (h *House) doBack(a asked) string {
	own := h.own(a.words[0])
	past := own.past()
	text, e := past.Text(a.numbers[1])
	must(e)
	p, bad := poem.Read(text)
	mustRead(bad)
	own.history, own.poem = past, p
	return told(p)
}

func (h *House) doWitness(a asked) string {
	var l []api.Witness
	for _, name := range a.words {
		l = append(l, api.Witness{Name: name, Text: h.own(name).poem.Source()})
	}
	t, e := witness.New(l)
	must(e)
	tree, changes := t.Best()
	return answer(word(t.Columns()), word(len(t.Varied())), word(changes), word(t.Ties()), Quote(tree))
}

func (h *House) doPage(a asked) string {
	n := a.numbers
	b, e := page.Set(h.own(a.words[0]).poem, api.Layout{Width: n[1], Height: n[2], Turn: n[3], Every: n[4]})
	must(e)
	return answer(word(b.Pages()), word(b.Cost()), Quote(b.Print()))
}

// milli is a number as a float over 1000.
func milli(n int) float64 { return float64(n) / 1000 }

func (h *House) doChant(a asked) string {
	n := a.numbers
	t := api.Tempo{Beat: milli(n[1]), Strong: milli(n[2]), Weak: milli(n[3]), Rest: milli(n[4]), Slow: milli(n[5])}
	l, _, e := chant.Plan(h.lexicon, h.own(a.words[0]).poem, h.metre, h.taste, t)
	must(e)
	return h.kept(l)
}

func (h *House) doRound(a asked) string {
	voices, e := chant.Round(h.notes, a.numbers[0], milli(a.numbers[1]))
	must(e)
	l, e := chant.Merge(voices)
	must(e)
	return answer(word(len(l)), word(chant.Most(voices)))
}
