package find

import (
	"cmp"
	"iter"
	"slices"
	"sort"

	"canticle/api"
)

// All: P23.7.
func (f *Finder) All() iter.Seq2[int, int] {
	return func(yield func(int, int) bool) {
		if f == nil {
			return
		}
		for _, x := range f.lines {
			if !yield(x[0], x[1]) {
				return
			}
		}
	}
}

// Lines: P23.7.
func (f *Finder) Lines(q *Query) iter.Seq2[int, int] {
	return func(yield func(int, int) bool) {
		if f == nil || q == nil {
			return
		}
		for k, answers := range f.answer(q.root) {
			if answers && !yield(f.lines[k][0], f.lines[k][1]) {
				return
			}
		}
	}
}

// answer tells of each line whether it answers a part of a question.
func (f *Finder) answer(n node) []bool {
	lines := make([]bool, len(f.lines))
	switch x := n.(type) {
	case term:
		f.mark(lines, f.places(x))
	case nearby:
		f.mark(lines, beside(f.places(x.a), f.places(x.b), x.most))
	case not:
		for k, answers := range f.answer(x.part) {
			lines[k] = !answers
		}
	case all:
		for k := range lines {
			lines[k] = true
		}
		for _, p := range x.parts {
			for k, answers := range f.answer(p) {
				lines[k] = lines[k] && answers
			}
		}
	case some:
		for _, p := range x.parts {
			for k, answers := range f.answer(p) {
				lines[k] = lines[k] || answers
			}
		}
	}
	return lines
}

// mark marks the lines of places.
func (f *Finder) mark(lines []bool, l []api.Hit) {
	for _, h := range l {
		if k, ok := slices.BinarySearchFunc(f.lines, [2]int{h.Poem, h.Line}, compare); ok {
			lines[k] = true
		}
	}
}

// order is the order of places.
func order(a, b api.Hit) int {
	return cmp.Or(cmp.Compare(a.Poem, b.Poem), cmp.Compare(a.Number, b.Number))
}

// places are the places that a term asks for, in order.
func (f *Finder) places(t term) []api.Hit {
	var keys []string
	keep := func(l []near) {
		for _, n := range l {
			keys = append(keys, n.key)
		}
	}
	switch t.kind {
	case asPhrase:
		return slices.Collect(f.concord.Phrase(t.words...))
	case asKey:
		return f.concord.Places(t.words[0])
	case asPattern:
		keys = slices.Collect(f.Match(t.words[0]))
	case asEdits:
		keep(f.within(t.words[0], t.most))
	case asSound:
		keep(f.sounds(t.words[0], t.most))
	}
	var l []api.Hit
	for _, key := range keys {
		l = append(l, f.concord.Places(key)...)
	}
	slices.SortFunc(l, order)
	return l
}

// beside are those of a that have another place of b near them.
func beside(a, b []api.Hit, most int) []api.Hit {
	var l []api.Hit
	for _, h := range a {
		from := sort.Search(len(b), func(k int) bool {
			return b[k].Poem > h.Poem || b[k].Poem == h.Poem && b[k].Number >= h.Number-most
		})
		for _, g := range b[from:] {
			if g.Poem != h.Poem || g.Number > h.Number+most {
				break
			}
			if g != h {
				l = append(l, h)
				break
			}
		}
	}
	return l
}
