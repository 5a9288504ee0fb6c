package house

import (
	"canticle/api"
	"canticle/check"
	"canticle/collate"
	"canticle/lexicon"
	"canticle/line"
	"canticle/metre"
	"canticle/mould"
	"canticle/poem"
	"canticle/rhyme"
	"canticle/rule"
	"canticle/scan"
	"canticle/syllable"
)

func (h *House) doPoem(a asked) string {
	p, bad := poem.Read(a.lines)
	mustRead(bad)
	h.full(a.words[0])
	h.shelve(a.words[0], p)
	return told(p)
}

func (h *House) doDrop(a asked) string {
	h.own(a.words[0])
	k := h.find(a.words[0])
	h.shelf = append(h.shelf[:k], h.shelf[k+1:]...)
	return word(len(h.shelf))
}

func (h *House) doNames(a asked) string {
	var out []string
	for _, name := range h.Poems() {
		out = append(out, Quote(name))
	}
	return answer(out...)
}

func (h *House) doShow(a asked) string { return Quote(h.own(a.words[0]).poem.Print()) }

func (h *House) doLine(a asked) string {
	v, e := h.own(a.words[0]).poem.Line(a.numbers[1])
	must(e)
	return answer(Quote(v.Text), word(v.Indent), word(v.Stanza), word(v.In))
}

func (h *House) doRules(a asked) string {
	r, bad := rule.Read(a.lines)
	mustRead(bad)
	x, bad := lexicon.Read(h.lexicon.Print(), r)
	mustRead(bad)
	h.rules, h.lexicon = r, x
	h.empty()
	return word(r.Len())
}

func (h *House) doLexicon(a asked) string {
	x, bad := lexicon.Read(a.lines, h.rules)
	mustRead(bad)
	h.lexicon = x
	h.empty()
	return word(x.Len())
}

func (h *House) doOrder(a asked) string {
	o, bad := collate.Read(a.lines)
	mustRead(bad)
	h.order = o
	h.empty()
	return Quote(o.Print())
}

func (h *House) doTaste(a asked) string {
	n := a.numbers
	t := h.taste
	t.Stress, t.Most, t.Near, t.Apart = n[0], n[1], n[2], n[3] == 1
	refuse(n[3] < 0 || n[3] > 1 || !check.May(t), api.ErrArg)
	h.taste = t
	h.empty()
	return "ok"
}

func (h *House) doVocab(a asked) string {
	mustRead(h.vocab.Read(a.lines))
	return word(h.vocab.Len())
}

func (h *House) doMetre(a asked) string {
	m, bad := metre.Read(a.words[0])
	mustRead(bad)
	h.metre = m
	text, _ := metre.Print(m)
	return Quote(text)
}

func (h *House) doForm(a asked) string {
	f, bad := mould.Read(a.lines)
	mustRead(bad)
	at := 0
	for at < len(h.forms) && h.forms[at].Name() != f.Name() {
		at++
	}
	if at == len(h.forms) {
		refuse(at >= api.MaxShelf, api.ErrLong)
		h.forms = append(h.forms, nil)
	}
	h.forms[at] = f
	return Quote(f.Name())
}

func (h *House) doForms(a asked) string {
	var out []string
	for _, f := range h.forms {
		out = append(out, Quote(f.Name()))
	}
	return answer(out...)
}

// spoken are the forms in which a word is spoken, and the source of that.
func (h *House) spoken(w string) ([]api.Said, int) {
	ways, source := h.lexicon.Sounds(w)
	var l []api.Said
	for _, s := range ways {
		if y, e := syllable.Lay(s.Phones, s.Stress, h.taste.Stress); e == api.OK {
			l = append(l, api.Said{Phones: s.Phones, Syllables: y})
		}
	}
	return l, source
}

func (h *House) doSay(a asked) string {
	l, source := h.spoken(a.words[0])
	out := []string{word(source)}
	for _, s := range l {
		text, _ := syllable.Print(s.Phones, s.Syllables)
		out = append(out, Quote(text))
	}
	return answer(out...)
}

func (h *House) doAccord(a asked) string {
	x, _ := h.spoken(a.words[0])
	y, _ := h.spoken(a.words[1])
	refuse(len(x) == 0 || len(y) == 0, api.ErrNone)
	k, e := rhyme.Kind(x[0], y[0])
	must(e)
	return word(int(k))
}

func (h *House) doRhymes(a asked) string {
	var out []string
	for e := range h.vocab.Rhymes(a.words[0]) {
		out = append(out, Quote(e.Word))
	}
	return answer(out...)
}

func (h *House) doScan(a asked) string {
	v, e := h.own(a.words[0]).poem.Line(a.numbers[1])
	must(e)
	l, e := line.New(h.lexicon, h.taste.Stress, v.Text)
	must(e)
	cost, ways, e := scan.Least(l, h.metre, h.taste.Rates)
	must(e)
	best, _ := scan.Best(l, h.metre, h.taste.Rates)
	text, _ := scan.Show(l, h.metre, best)
	return answer(word(cost), word(ways), Quote(text))
}

func (h *House) doCheck(a asked) string {
	p, f := h.own(a.words[0]).poem, h.form(a.words[1])
	j, e := check.New(h.lexicon, f, h.taste)
	must(e)
	l, e := j.Lacks(p)
	must(e)
	out := []string{word(len(l))}
	for _, x := range l {
		out = append(out, slashed(word(x.Line), word(int(x.Err)), word(x.With), word(x.Got), word(x.Want)))
	}
	return answer(out...)
}

func (h *House) doWhich(a asked) string {
	p := h.own(a.words[0]).poem
	var forms []*mould.Form
	for name := range mould.House() {
		f, _ := mould.Of(name)
		forms = append(forms, f)
	}
	k, n, e := check.Which(h.lexicon, h.taste, p, forms...)
	must(e)
	return answer(Quote(forms[k].Name()), word(n))
}
