package check_test

import (
	"slices"
	"strconv"
	"strings"
	"testing"

	"canticle/api"
	"canticle/check"
	"canticle/class"
	"canticle/fold"
	"canticle/lexicon"
	"canticle/line"
	"canticle/mould"
	"canticle/poem"
	"canticle/rhyme"
	"canticle/scan"
	"canticle/scheme"
	"canticle/word"
)

type chance uint64

func (c *chance) less(n int) int {
	*c = *c*6364136223846793005 + 1442695040888963407
	return int(uint64(*c)>>33) % n
}

func (c *chance) of(l ...string) string { return l[c.less(len(l))] }

func book(t *testing.T) *lexicon.Lexicon {
	t.Helper()
	x, bad := lexicon.Read("the = \u00f0\u0259, \u00f0i\nhour = \u02c8au\u032fr\nof = \u02c8\u0254v\nday = d\u02c8e\u02d0\nonly = \u02c8o\u02d0nli\na = \u0259\nway = w\u02c8e\u02d0\nlove = l\u02c8\u0254v\nodd = t\n", nil)
	if bad.Err != api.OK {
		t.Fatal(bad)
	}
	return x
}

func taste() api.Taste {
	return api.Taste{Stress: api.RuleFirst, Rates: scan.House(), Most: 2}
}

func form(t *testing.T, text string) *mould.Form {
	t.Helper()
	f, bad := mould.Read(text)
	if bad.Err != api.OK {
		t.Fatalf("%q: %v", text, bad)
	}
	return f
}

func verse(t *testing.T, text string) *poem.Poem {
	t.Helper()
	p, bad := poem.Read(text)
	if bad.Err != api.OK {
		t.Fatalf("%q: %v", text, bad)
	}
	return p
}

func judge(t *testing.T, x *lexicon.Lexicon, f *mould.Form, y api.Taste) *check.Judge {
	t.Helper()
	j, e := check.New(x, f, y)
	if e != api.OK || j == nil {
		t.Fatal(e)
	}
	return j
}

func words(s string) []string {
	var l []string
	for w := range word.Words(s) {
		l = append(l, s[w.From:w.To])
	}
	return l
}

func texts(p *poem.Poem) []string {
	var l []string
	for _, v := range p.Each() {
		l = append(l, v.Text)
	}
	return l
}

// keys are what the chapter says that a poem's keys are.
func keys(x *lexicon.Lexicon, y api.Taste, p *poem.Poem) []int {
	var out []int
	var forms []api.Said
	for _, s := range texts(p) {
		out = append(out, 0)
		if l, e := line.New(x, y.Stress, s); e == api.OK && l.Words() > 0 {
			f, _ := l.Forms(l.Words() - 1)
			forms = append(forms, f[0])
			out[len(out)-1] = 1
		}
	}
	web, _ := rhyme.Web(forms, y.Near)
	lone := 0
	for k, n := range out {
		if n == 1 {
			out[k], web = web[0], web[1:]
		} else {
			lone--
			out[k] = lone
		}
	}
	return out
}

// lacks are what the chapter says, thing by thing.
func lacks(x *lexicon.Lexicon, f *mould.Form, y api.Taste, p *poem.Poem) []api.Lack {
	rounds, ok := f.Fit(p.Lines())
	if !ok {
		return []api.Lack{{Line: -1, Err: api.ErrLines, With: -1, Got: p.Lines()}}
	}
	demands, _ := f.Lines(rounds)
	s, _ := f.Scheme(rounds)
	var k []string
	for _, n := range keys(x, y, p) {
		k = append(k, strconv.Itoa(n))
	}
	clashes, _ := scheme.Faults(s, k...)
	all := texts(p)
	var out []api.Lack
	astray := false
	for n, d := range demands {
		add := func(e api.Errno, with, got, want int) {
			out = append(out, api.Lack{Line: n, Err: e, With: with, Got: got, Want: want})
		}
		v, _ := p.Line(n)
		if v.Stanza != d.Stanza && !astray {
			astray = true
			add(api.ErrStanza, -1, v.Stanza, d.Stanza)
		}
		own := words(v.Text)
		if d.Metre >= 0 || d.Syllables > 0 {
			l, e := line.New(x, y.Stress, v.Text)
			if e != api.OK {
				add(e, -1, 0, 0)
			}
			if e == api.OK && d.Metre >= 0 {
				cost, _, e := scan.Least(l, f.Metres()[d.Metre], y.Rates)
				if e == api.ErrNone {
					add(api.ErrScan, -1, 0, 0)
				} else if cost > y.Most {
					add(api.ErrDear, -1, cost, y.Most)
				}
			}
			if e == api.OK && d.Syllables > 0 && l.With(d.Syllables) == 0 {
				few, _ := l.Span()
				add(api.ErrCount, -1, few, d.Syllables)
			}
		}
		if d.Same >= 0 && !fold.Same(word.Plain(v.Text), word.Plain(all[d.Same])) {
			add(api.ErrSame, d.Same, 0, 0)
		}
		last := func(k int) string {
			if w := words(all[k]); len(w) > 0 {
				return fold.Fold(w[len(w)-1])
			}
			return ""
		}
		if d.Ends >= 0 && (last(n) == "" || last(n) != last(d.Ends)) {
			add(api.ErrEnds, d.Ends, 0, 0)
		}
		for _, h := range d.Has {
			if last(h) == "" || !slices.ContainsFunc(own, func(w string) bool { return fold.Fold(w) == last(h) }) {
				add(api.ErrHas, h, 0, 0)
			}
		}
		if d.Begins != 0 && (len(own) == 0 || !strings.HasPrefix(fold.Fold(own[0]), string(d.Begins))) {
			add(api.ErrBegins, -1, 0, 0)
		}
		for _, c := range clashes {
			if c.Line == n && (c.Err == api.ErrUnlike || y.Apart) {
				add(c.Err, c.With, 0, 0)
			}
		}
	}
	return out
}

func (c *chance) poem(t *testing.T) *poem.Poem {
	text := ""
	for range 1 + c.less(6) {
		for k := range c.less(5) {
			if k > 0 {
				text += c.of(" ", " ", ", ", "  ")
			}
			text += c.of("the", "hour", "of", "day", "Day!", "a", "love", "way", "only", "frob", "odd", "d\u00e0y")
		}
		text += c.of("\n", "\n", "\n", ".\n", "!\n\n", "\xff\n", "\n\n")
	}
	return verse(t, text)
}

func (c *chance) form(t *testing.T, lines int) *mould.Form {
	text := "form x\nmetre m 2 iamb; any spondee 1\nmetre n trochee; end x 2\n"
	at := 0
	for range 1 + c.less(3) {
		text += "stanza"
		for range 1 + c.less(3) {
			text += " " + c.of("a", "a", "b", "x", "A1")
			if c.less(2) == 0 {
				text += c.of(":m", ":n")
			}
			if c.less(2) == 0 {
				text += c.of("/2", "/4", "/3")
			}
			if at > 0 {
				back := func() string { return strconv.Itoa(1 + c.less(at)) }
				switch c.less(5) {
				case 0:
					text += "^" + back()
				case 1:
					text += "@" + back()
				case 2:
					text += "~" + back()
				}
			}
			if c.less(3) == 0 {
				text += c.of("'d", "'a", "'t")
			}
			at++
		}
		text += "\n"
	}
	f := form(t, text)
	if at != lines && c.less(10) > 0 {
		return c.form(t, lines)
	}
	return f
}

// P19.2 to P19.6
func TestLacks(t *testing.T) {
	x := book(t)
	c := chance(1)
	none := 0
	for range 4000 {
		p := c.poem(t)
		f := c.form(t, p.Lines())
		y := taste()
		y.Most, y.Near, y.Apart, y.Stress = c.less(5), []int{0, 0, 12, 25}[c.less(4)], c.less(2) == 0, 1+c.less(4)
		j := judge(t, x, f, y)
		got, e := j.Lacks(p)
		want := lacks(x, f, y, p)
		if e != api.OK || !slices.Equal(got, want) {
			t.Fatalf("Lacks of %q by %q, %v: %v, %v, want %v", p.Source(), f.Print(), y, got, e, want)
		}
		if k, e := j.Keys(p); e != api.OK || !slices.Equal(k, keys(x, y, p)) {
			t.Fatalf("Keys of %q: %v, %v", p.Source(), k, e)
		}
		first, ok, e := j.First(p)
		if len(want) == 0 {
			none++
			if ok || e != api.OK || first != (api.Lack{}) {
				t.Fatalf("First of %q: %v, %v, %v", p.Source(), first, ok, e)
			}
		} else if !ok || e != api.OK || first != want[0] {
			t.Fatalf("First of %q: %v, %v, %v", p.Source(), first, ok, e)
		}
		for k := -1; k <= p.Lines(); k++ {
			l, e := j.Line(p, k)
			own := slices.DeleteFunc(slices.Clone(want), func(x api.Lack) bool { return x.Line != k })
			if k < 0 || k == p.Lines() {
				own = nil
			}
			if wrong := k < 0 || k == p.Lines(); wrong != (e == api.ErrRange) || !wrong && e != api.OK || !slices.Equal(l, own) {
				t.Fatalf("Line(%d) of %q by %q: %v, %v, want %v", k, p.Source(), f.Print(), l, e, own)
			}
		}
		looser(t, x, f, y, p, want)
	}
	if none < 5 {
		t.Error("poems that lack nothing:", none)
	}
}

// looser holds that a taste that asks for less finds no such lacks more.
func looser(t *testing.T, x *lexicon.Lexicon, f *mould.Form, y api.Taste, p *poem.Poem, had []api.Lack) {
	t.Helper()
	more := y
	more.Most, more.Apart = y.Most+3, false
	l, _ := judge(t, x, f, more).Lacks(p)
	for _, a := range l {
		if (a.Err == api.ErrDear || a.Err == api.ErrUnlike || a.Err == api.ErrAlike) && !slices.ContainsFunc(had, func(b api.Lack) bool { return b.Line == a.Line && b.Err == a.Err }) {
			t.Fatalf("%q by a looser taste: %v, had %v", p.Source(), l, had)
		}
	}
	up := verse(t, class.UpperText(p.Source()))
	if m, _ := judge(t, x, f, y).Lacks(up); !slices.Equal(m, had) {
		t.Fatalf("%q in great letters: %v, want %v", p.Source(), m, had)
	}
}

// P19.1
func TestMay(t *testing.T) {
	x, f := book(t), form(t, "form x\nstanza a")
	for k, y := range []struct {
		change func(y *api.Taste)
		want   bool
	}{
		{func(y *api.Taste) {}, true}, {func(y *api.Taste) { y.Stress = 0 }, false}, {func(y *api.Taste) { y.Stress = 4 }, true}, {func(y *api.Taste) { y.Stress = 5 }, false}, {func(y *api.Taste) { y.Rates.Run = -1 }, false},
		{func(y *api.Taste) { y.Most = -1 }, false}, {func(y *api.Taste) { y.Most = api.MaxCost }, true}, {func(y *api.Taste) { y.Most = api.MaxCost + 1 }, false}, {func(y *api.Taste) { y.Near = -1 }, false}, {func(y *api.Taste) { y.Near = api.MaxCost }, true}, {func(y *api.Taste) { y.Near = api.MaxCost + 1 }, false}, {func(y *api.Taste) { *y = api.Taste{} }, false},
	} {
		z := taste()
		y.change(&z)
		j, e := check.New(x, f, z)
		_, _, g := check.Which(x, z, verse(t, "a"), f)
		if check.May(z) != y.want || (e == api.OK) != y.want || (j != nil) != y.want || !y.want && (e != api.ErrArg || g != api.ErrArg) {
			t.Errorf("%d: %v, %v", k, e, g)
		}
	}
	if _, e := check.New(nil, f, api.Taste{}); e != api.ErrNil {
		t.Error("no lexicon", e)
	}
	if _, e := check.New(x, nil, api.Taste{}); e != api.ErrNil {
		t.Error("no form", e)
	}
}

// P19.2 to P19.4: what is not there.
func TestNil(t *testing.T) {
	var none *check.Judge
	p := verse(t, "a")
	j := judge(t, book(t), form(t, "form x\nstanza a"), taste())
	for k, x := range []struct {
		j *check.Judge
		p *poem.Poem
	}{{none, p}, {j, nil}, {none, nil}} {
		a, e := x.j.Keys(x.p)
		b, f := x.j.Lacks(x.p)
		_, ok, g := x.j.First(x.p)
		c, h := x.j.Line(x.p, 99)
		if e != api.ErrNil || f != api.ErrNil || g != api.ErrNil || h != api.ErrNil || ok || len(a)+len(b)+len(c) > 0 {
			t.Error(k, e, f, g, h)
		}
	}
}

// P19.5
func TestWhich(t *testing.T) {
	x, y := book(t), taste()
	p := verse(t, "the day of hour\na hour")
	two, one, apart := form(t, "form x\nmetre m 2 iamb\nstanza a:m/4 a@1"), form(t, "form y\nstanza a"), form(t, "form z\nstanza a\nstanza b'z")
	for k, z := range []struct {
		l        []*mould.Form
		at, many int
	}{{[]*mould.Form{two}, 0, 0}, {[]*mould.Form{one, two}, 1, 0}, {[]*mould.Form{one, two, two}, 1, 0}, {[]*mould.Form{one, one}, 0, 1}, {[]*mould.Form{apart, one}, 1, 1}, {[]*mould.Form{apart, apart}, 0, 2}} {
		if a, b, e := check.Which(x, y, p, z.l...); a != z.at || b != z.many || e != api.OK {
			t.Errorf("%d: %d, %d, %v", k, a, b, e)
		}
	}
	for k, z := range []struct {
		x    *lexicon.Lexicon
		y    api.Taste
		p    *poem.Poem
		l    []*mould.Form
		want api.Errno
	}{{nil, y, p, []*mould.Form{two}, api.ErrNil}, {x, y, nil, []*mould.Form{two}, api.ErrNil}, {x, api.Taste{}, p, []*mould.Form{two, nil}, api.ErrNil}, {x, api.Taste{}, p, nil, api.ErrArg}, {x, y, p, nil, api.ErrNone}} {
		if a, b, e := check.Which(z.x, z.y, z.p, z.l...); a+b != 0 || e != z.want {
			t.Errorf("%d: %d, %d, %v", k, a, b, e)
		}
	}
}

// The examples of the chapter.
func TestExamples(t *testing.T) {
	x := book(t)
	j := judge(t, x, form(t, "form x\nmetre m 2 iamb\nstanza a:m/4 a@1"), taste())
	ends, unlike := api.Lack{Line: 1, Err: api.ErrEnds, With: 0}, api.Lack{Line: 1, Err: api.ErrUnlike, With: 0}
	for text, want := range map[string][]api.Lack{
		"the day of hour\na hour":   nil,
		"the day of hour\nthe day":  {ends, unlike},
		"day\nhour":                 {{Line: 0, Err: api.ErrScan, With: -1}, {Line: 0, Err: api.ErrCount, With: -1, Got: 1, Want: 4}, ends, unlike},
		"the frob\na hour":          {{Line: 0, Err: api.ErrNone, With: -1}, ends, unlike},
		"the day of hour":           {{Line: -1, Err: api.ErrLines, With: -1, Got: 1}},
		"the day of hour\n\na hour": {{Line: 1, Err: api.ErrStanza, With: -1, Got: 1, Want: 0}},
	} {
		if got, e := j.Lacks(verse(t, text)); e != api.OK || !slices.Equal(got, want) {
			t.Errorf("Lacks of %q: %v, want %v", text, got, want)
		}
	}
	if k, _ := j.Keys(verse(t, "the day of hour\nthe frob\nA Hour!\na day")); !slices.Equal(k, []int{0, -1, 0, 1}) {
		t.Error("Keys", k)
	}
	// What is added to the lexicon counts.
	p := verse(t, "the frob\na hour")
	x.Add("frob", api.Spoken{Phones: []api.Phone{{Rune: 'a'}, {Rune: 't'}, {Rune: 'a'}, {Rune: 't'}, {Rune: 'a'}}, Stress: []int{0, 2, 0}})
	if l, _ := j.Line(p, 0); len(l) != 1 || l[0].Err != api.ErrDear || l[0].Got != 9 || l[0].Want != 2 {
		t.Error("behind Add", l)
	}
}
