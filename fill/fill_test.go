package fill_test

import (
	"regexp"
	"slices"
	"strconv"
	"strings"
	"testing"

	"canticle/api"
	"canticle/check"
	"canticle/collate"
	"canticle/fill"
	"canticle/lexicon"
	"canticle/mould"
	"canticle/poem"
	"canticle/scan"
	"canticle/vocab"
)

type chance uint64

func (c *chance) less(n int) int {
	*c = *c*6364136223846793005 + 1442695040888963407
	return int(uint64(*c)>>33) % n
}

func (c *chance) of(l ...string) string { return l[c.less(len(l))] }

func book(t *testing.T) *lexicon.Lexicon {
	t.Helper()
	x, bad := lexicon.Read("rose = r\u02c8oz\nnose = n\u02c8oz\narose = \u0259r\u02c8oz\nthe = \u00f0\u0259\nlily = l\u02c8ili\nsilly = s\u02c8ili\nhat = h\u02c8at\nhad = h\u02c8ad\na = \u0259\nof = \u02c8ov\n", nil)
	if bad.Err != api.OK {
		t.Fatal(bad)
	}
	return x
}

func vocabulary(t *testing.T, x *lexicon.Lexicon, text string) *vocab.Vocab {
	t.Helper()
	o, _ := collate.Read("")
	v, _ := vocab.New(x, o, api.RuleFirst)
	if bad := v.Read(text); bad.Err != api.OK {
		t.Fatal(bad)
	}
	return v
}

func verse(t *testing.T, text string) *poem.Poem {
	t.Helper()
	p, bad := poem.Read(text)
	if bad.Err != api.OK {
		t.Fatal(bad)
	}
	return p
}

func form(t *testing.T, text string) *mould.Form {
	t.Helper()
	f, bad := mould.Read(text)
	if bad.Err != api.OK {
		t.Fatalf("%q: %v", text, bad)
	}
	return f
}

func taste() api.Taste {
	return api.Taste{Stress: api.RuleFirst, Rates: scan.House(), Most: 9}
}

const example = "rose n 5\narose v 2\nlily n 5\nthe t 9\n"

// right is a hole that is right, with what must not stand behind it.
var right = regexp.MustCompile(`^_(a?c?d?i?m?n?p?r?t?v?)([1-9]|[1-5][0-9]|6[0-4])?($|[^_\pL\pN])`)

// holes are those of a poem, by the chapter.
func holes(p *poem.Poem) ([]api.Hole, api.Errno) {
	var l []api.Hole
	for k, v := range p.Each() {
		for at := range len(v.Text) {
			if v.Text[at] != '_' || at > 0 && v.Text[at-1] == '_' {
				continue
			}
			m := right.FindStringSubmatchIndex(v.Text[at:])
			if m == nil {
				return nil, api.ErrHole
			}
			if len(l) == 64 {
				return nil, api.ErrLong
			}
			h := api.Hole{Line: k, Span: api.Span{From: at, To: at + m[3]}, Kinds: v.Text[at+m[2] : at+m[3]]}
			if m[4] >= 0 {
				h.Syllables, _ = strconv.Atoi(v.Text[at+m[4] : at+m[5]])
				h.Span.To = at + m[5]
			}
			l = append(l, h)
		}
	}
	return l, api.OK
}

// P25.1
func TestHoles(t *testing.T) {
	c := chance(1)
	for range 20000 {
		text := ""
		for range 1 + c.less(7) {
			text += c.of("_", "_", "n", "v", "_n", "_nv2", "a", "b", "1", "0", "64", "65", " ", " ", ",", "\u00e9", "\u0301", "\xff", "\n", "N")
		}
		p := verse(t, text)
		want, e := holes(p)
		got, f := fill.Holes(p)
		if e != f || !slices.Equal(got, want) {
			t.Fatalf("Holes of %q: %v, %v, want %v, %v", text, got, f, want, e)
		}
	}
	for text, want := range map[string]api.Errno{"_N": api.ErrHole, "a_b": api.ErrHole, "__": api.ErrHole, "_n0": api.ErrHole, "_nn": api.ErrHole, "_\u00e9": api.ErrHole, "_n65": api.ErrHole, "_n64": api.OK, "_n01": api.ErrHole, "_n1a": api.ErrHole, "_n99999999999999999999": api.ErrHole,
		strings.Repeat("_ ", 64): api.OK, strings.Repeat("_ ", 65): api.ErrLong, strings.Repeat("_ ", 64) + "_z": api.ErrHole, strings.Repeat("_ ", 40) + "\n" + strings.Repeat("_ ", 25) + "_z": api.ErrLong, strings.Repeat("_ ", 65) + "_z": api.ErrLong} {
		if l, e := fill.Holes(verse(t, text)); e != want || e != api.OK && len(l) > 0 {
			t.Errorf("Holes of %q: %v", text, e)
		}
	}
	if l, _ := fill.Holes(verse(t, "the _n, _ is _v2")); !slices.Equal(l, []api.Hole{{Span: api.Span{From: 4, To: 6}, Kinds: "n"}, {Span: api.Span{From: 8, To: 9}}, {Span: api.Span{From: 13, To: 16}, Kinds: "v", Syllables: 2}}) {
		t.Error(l)
	}
	if _, e := fill.Holes(nil); e != api.ErrNil {
		t.Error(e)
	}
}

// lay puts words into the first holes of a line that is whole.
func lay(p *poem.Poem, l []api.Hole, words []string, line int) string {
	v, _ := p.Line(line)
	text := v.Text
	for k := len(words) - 1; k >= 0; k-- {
		if l[k].Line == line {
			text = text[:l[k].Span.From] + words[k] + text[l[k].Span.To:]
		}
	}
	return strings.Repeat(" ", v.Indent) + text
}

// P25.2
func TestLay(t *testing.T) {
	c := chance(2)
	for range 3000 {
		text := ""
		for range 1 + c.less(4) {
			text += c.of("", "  ") + c.of("a _n b _", "_", "the", "_v2", "x_, \xff") + c.of("\n", "\n\n")
		}
		p := verse(t, text)
		l, _ := fill.Holes(p)
		var words []string
		for range l {
			words = append(words, c.of("rose", "x y", "_", "\xff", "", "  "))
		}
		want, e := p, api.OK
		for k := range p.Lines() {
			if e == api.OK && slices.ContainsFunc(l, func(h api.Hole) bool { return h.Line == k }) {
				want, e = want.Set(k, lay(p, l, words, k))
			}
		}
		got, f := fill.Lay(p, words...)
		if e != f || (got == nil) != (f != api.OK) || e == api.OK && (!got.Same(want) || got.Source() != want.Source()) {
			t.Fatalf("Lay of %q by %q: %v, want %v", text, words, f, e)
		}
		if len(l) == 0 && got != p {
			t.Fatal("a poem without holes")
		}
		if q, e := fill.Lay(p, append(words, "x")...); q != nil || e != api.ErrArg {
			t.Fatal("a word more", e)
		}
	}
	long := strings.Repeat("a", api.MaxLine)
	for k, x := range []struct {
		text  string
		words []string
		want  api.Errno
	}{{"_", []string{long}, api.OK}, {"_", []string{long + "a"}, api.ErrVerse}, {"_", []string{"a\n"}, api.ErrVerse}, {"_", []string{" "}, api.ErrVerse}, {"_q", nil, api.ErrHole}, {"_", nil, api.ErrArg}, {strings.Repeat("_ ", 65), nil, api.ErrLong}, {strings.Repeat("_\n", 64) + long, slices.Repeat([]string{long}, 64), api.ErrLong}, {strings.Repeat("_\n", 64), append(slices.Repeat([]string{long}, 63), "\n"), api.ErrVerse}} {
		if q, e := fill.Lay(verse(t, x.text), x.words...); e != x.want || (q == nil) != (e != api.OK) {
			t.Errorf("%d: Lay: %v, want %v", k, e, x.want)
		}
	}
	if _, e := fill.Lay(nil, "a"); e != api.ErrNil {
		t.Error(e)
	}
}

// search goes just as the chapter says: all completions with the steps made by then, and how many steps there are.
type search struct {
	x     *lexicon.Lexicon
	f     *mould.Form
	y     api.Taste
	j     *check.Judge
	words [][]string
	steps []int
	all   int
}

func (s *search) lost(p *poem.Poem, k int) bool {
	lacks, _ := s.j.Lacks(p)
	return slices.ContainsFunc(lacks, func(l api.Lack) bool {
		return l.Line == k && l.Err != api.ErrStanza && (s.y.Near == 0 || l.Err != api.ErrUnlike && l.Err != api.ErrAlike)
	})
}

func (s *search) from(first, p *poem.Poem, l []api.Hole, cands [][]string, words []string) {
	h := len(words)
	to := p.Lines()
	if h < len(l) {
		to = l[h].Line
	}
	for k := range to {
		if s.lost(p, k) {
			return
		}
	}
	if h == len(l) {
		if lacks, _ := s.j.Lacks(p); len(lacks) == 0 {
			s.words, s.steps = append(s.words, slices.Clone(words)), append(s.steps, s.all)
		}
		return
	}
	for _, w := range cands[h] {
		s.all++
		next := append(slices.Clone(words), w)
		if q, e := p.Set(to, lay(first, l, next, to)); e == api.OK {
			s.from(first, q, l, cands, next)
		}
	}
}

// P25.4 to P25.6
func TestSearch(t *testing.T) {
	x := book(t)
	v := vocabulary(t, x, "rose n 5\nnose n 5\narose v 2\nlily n 5\nsilly a 3\nhat n 2\nhad v 4\nthe t 9\na t 1\nof r 7\n")
	c := chance(3)
	completed := 0
	for range 500 {
		text := ""
		lines := 1 + c.less(3)
		for range lines {
			for k := range 1 + c.less(3) {
				if k > 0 {
					text += " "
				}
				text += c.of("_n", "_n1", "_v", "_", "_t", "the", "rose", "hat", "_a2", "_n3", "frob")
			}
			text += c.of("\n", "\n", "\n", "\n\n")
		}
		demand := func() string {
			return c.of("a", "a", "b", "x") + c.of("", "", "/2", "/3", ":m") + c.of("", "", "'r", "'h")
		}
		s := "form x\nmetre m iamb; any pyrrhic 1\nstanza " + demand()
		for k := 1; k < lines; k++ {
			s += c.of(" ", " ", " ", "\nstanza ") + demand() + c.of("", "", "@1", "~1", "^1")
		}
		f := form(t, s)
		p := verse(t, text)
		l, _ := fill.Holes(p)
		if len(l) > 5 {
			continue
		}
		y := taste()
		y.Most, y.Near, y.Apart = c.less(9), []int{0, 0, 4, 30}[c.less(4)], c.less(3) == 0
		j, _ := check.New(x, f, y)
		w := &search{x: x, f: f, y: y, j: j}
		lacks, _ := j.Lacks(p)
		refused := slices.ContainsFunc(lacks, func(l api.Lack) bool { return l.Err == api.ErrLines || l.Err == api.ErrStanza })
		if !refused {
			var cands [][]string
			for _, h := range l {
				var words []string
				for g := range v.Select(api.Want{Kinds: h.Kinds, Syllables: h.Syllables}) {
					words = append(words, g.Entry.Word)
				}
				cands = append(cands, words)
			}
			w.from(p, p, l, cands, nil)
		}
		completed += len(w.words)
		z, e := fill.New(x, v, f, y)
		if e != api.OK {
			t.Fatal(e)
		}
		for _, budget := range []int{0, 1, 2, 5, w.all - 1, w.all, w.all + 1, api.MaxBudget} {
			if budget >= 0 {
				told(t, z, p, w, budget)
			}
		}
	}
	if completed < 100 {
		t.Error("completions:", completed)
	}
}

// told holds what a Filler tells against a search that was gone through.
func told(t *testing.T, z *fill.Filler, p *poem.Poem, w *search, budget int) {
	t.Helper()
	words, steps, e := z.First(p, budget)
	switch {
	case len(w.words) > 0 && w.steps[0] <= budget:
		if e != api.OK || steps != w.steps[0] || !slices.Equal(words, w.words[0]) {
			t.Fatalf("First of %q by %q, %d: %q, %d, %v, want %q, %d", p.Source(), w.f.Print(), budget, words, steps, e, w.words[0], w.steps[0])
		}
		q, e := fill.Lay(p, words...)
		if lacks, _ := w.j.Lacks(q); e != api.OK || len(lacks) > 0 {
			t.Fatalf("First of %q: %q lacks %v", p.Source(), words, lacks)
		}
	case w.all > budget:
		if e != api.ErrBudget || steps != budget || len(words) > 0 {
			t.Fatalf("First of %q by %q, %d: %q, %d, %v, want ErrBudget", p.Source(), w.f.Print(), budget, words, steps, e)
		}
	case e != api.ErrNone || steps != w.all || len(words) > 0:
		t.Fatalf("First of %q by %q, %d: %q, %d, %v, want ErrNone, %d", p.Source(), w.f.Print(), budget, words, steps, e, w.all)
	}
	n, steps, e := z.Count(p, budget)
	if w.all > budget {
		if n != 0 || steps != budget || e != api.ErrBudget {
			t.Fatalf("Count of %q, %d: %d, %d, %v", p.Source(), budget, n, steps, e)
		}
	} else if n != len(w.words) || steps != w.all || e != api.OK {
		t.Fatalf("Count of %q by %q, %d: %d, %d, %v, want %d, %d", p.Source(), w.f.Print(), budget, n, steps, e, len(w.words), w.all)
	}
	var want [][]string
	for k, x := range w.words {
		if w.steps[k] <= budget {
			want = append(want, x)
		}
	}
	if got := slices.Collect(z.All(p, budget)); !slices.EqualFunc(got, want, slices.Equal[[]string]) {
		t.Fatalf("All of %q, %d: %q, want %q", p.Source(), budget, got, want)
	}
	for range z.All(p, budget) {
		break
	}
}

// P25.3, P25.4: what is refused ahead of a search.
func TestRefused(t *testing.T) {
	x := book(t)
	v := vocabulary(t, x, example)
	f := form(t, "form x\nstanza a a")
	for k, z := range []struct {
		x    *lexicon.Lexicon
		v    *vocab.Vocab
		f    *mould.Form
		y    api.Taste
		want api.Errno
	}{{nil, v, f, api.Taste{}, api.ErrNil}, {x, nil, f, api.Taste{}, api.ErrNil}, {x, v, nil, api.Taste{}, api.ErrNil}, {x, v, f, api.Taste{}, api.ErrArg}, {x, v, f, taste(), api.OK}} {
		if g, e := fill.New(z.x, z.v, z.f, z.y); e != z.want || (g == nil) != (e != api.OK) {
			t.Errorf("%d: New: %v", k, e)
		}
	}
	z, _ := fill.New(x, v, f, taste())
	var none *fill.Filler
	for k, y := range []struct {
		z      *fill.Filler
		p      *poem.Poem
		budget int
		want   api.Errno
	}{{none, verse(t, "_"), -1, api.ErrNil}, {z, nil, -1, api.ErrNil}, {z, verse(t, "_z"), -1, api.ErrHole}, {z, verse(t, strings.Repeat("_ ", 65)), -1, api.ErrLong}, {z, verse(t, "_"), -1, api.ErrArg}, {z, verse(t, "_\n_"), api.MaxBudget + 1, api.ErrArg}, {z, verse(t, "the"), -1, api.ErrArg}} {
		words, a, e := y.z.First(y.p, y.budget)
		n, b, g := y.z.Count(y.p, y.budget)
		if e != y.want || g != y.want || a+b+n != 0 || len(words) > 0 {
			t.Errorf("%d: %v, %v", k, e, g)
		}
		for range y.z.All(y.p, y.budget) {
			t.Errorf("%d: All", k)
		}
	}
}

// The examples of the chapter, and what becomes of the lexicon and the vocabulary.
func TestExamples(t *testing.T) {
	x := book(t)
	v := vocabulary(t, x, example)
	z, _ := fill.New(x, v, form(t, "form x\nstanza a a"), taste())
	for k, y := range []struct {
		text   string
		budget int
		words  string
		steps  int
		e      api.Errno
	}{{"the _n\narose", 9, "rose", 2, api.OK}, {"the _n\narose", 1, "", 1, api.ErrBudget}, {"the _n\narose", 0, "", 0, api.ErrBudget}, {"a _n\nthe _v", 99, "rose arose", 4, api.OK}, {"the\narose", 9, "", 0, api.ErrNone}, {"rose\narose", 0, "", 0, api.OK}, {"rose", 9, "", 0, api.ErrNone}, {"_\n\n_", 9, "", 0, api.ErrNone}} {
		words, steps, e := z.First(verse(t, y.text), y.budget)
		if strings.Join(words, " ") != y.words || steps != y.steps || e != y.e {
			t.Errorf("%d: First: %q, %d, %v", k, words, steps, e)
		}
	}
	if n, steps, e := z.Count(verse(t, "the _n\narose"), 9); n != 1 || steps != 2 || e != api.OK {
		t.Error("Count", n, steps, e)
	}
	if n, steps, e := z.Count(verse(t, "rose\narose"), 0); n != 1 || steps != 0 || e != api.OK {
		t.Error("Count without holes", n, steps, e)
	}
	if n, steps, e := z.Count(verse(t, "_"), 5); n != 0 || steps != 0 || e != api.OK {
		t.Error("Count of what is refused", n, steps, e)
	}
	if l := slices.Collect(z.All(verse(t, "rose\narose"), 0)); len(l) != 1 || len(l[0]) != 0 {
		t.Error("All without holes", l)
	}
	n := 0
	for words := range z.All(verse(t, "_\nrose"), 99) {
		x.Remove("arose")
		v.Remove("arose")
		n += len(words)
	}
	if n != 2 {
		t.Error("All while the vocabulary is changed", n)
	}
	if n, _, _ := z.Count(verse(t, "_\nrose"), 99); n != 1 {
		t.Error("behind that", n)
	}
}
