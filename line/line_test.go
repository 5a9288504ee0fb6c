package line_test

import (
	"slices"
	"strings"
	"testing"

	"canticle/api"
	"canticle/lexicon"
	"canticle/line"
	"canticle/rule"
	"canticle/runes"
	"canticle/syllable"
	"canticle/word"
)

type chance uint64

func (c *chance) less(n int) int {
	*c = *c*6364136223846793005 + 1442695040888963407
	return int(uint64(*c)>>33) % n
}

func (c *chance) of(l ...string) string { return l[c.less(len(l))] }

// book is the lexicon of the chapter's examples, and some words more.
func book(t *testing.T) *lexicon.Lexicon {
	t.Helper()
	r, bad := rule.Read("(z) > za\n(m) > m\n(q) > aoa")
	if bad.Err != api.OK {
		t.Fatal(bad)
	}
	x, bad := lexicon.Read("the = \u00f0\u0259, \u00f0i\nhour = \u02c8au\u032fr\nof = \u02c8\u0254v\nday = d\u02c8e\u02d0\nonly = \u02c8o\u02d0nli\na = \u0259\no = \u02c8o, \u02cco, o\nio = \u02c8io, i\u02c8o, jo\nalto = \u02c8alt\u02cco\n", r)
	if bad.Err != api.OK {
		t.Fatal(bad)
	}
	return x
}

func speak(t *testing.T, x *lexicon.Lexicon, text string) *line.Line {
	t.Helper()
	l, e := line.New(x, api.RuleFirst, text)
	if e != api.OK || l == nil {
		t.Fatalf("New(%q): %v", text, e)
	}
	return l
}

// forms are a word's forms, by the layers below.
func forms(x *lexicon.Lexicon, w string, rule int) []api.Said {
	var out []api.Said
	ways, _ := x.Sounds(w)
	for _, s := range ways {
		l, _ := syllable.Lay(s.Phones, s.Stress, rule)
		out = append(out, api.Said{Phones: s.Phones, Syllables: l})
	}
	return out
}

// readings tries all choices, in order, and keeps those that may be.
func readings(x *lexicon.Lexicon, text string) []api.Reading {
	spans := slices.Collect(word.Words(text))
	all := []api.Reading{{}}
	for k, s := range spans {
		own := forms(x, text[s.From:s.To], api.RuleFirst)
		near := false
		if k+1 < len(spans) {
			between := text[s.To:spans[k+1].From]
			n, _ := word.Count(between)
			tok, _ := word.At(between, 0)
			near = n == 1 && tok.Kind == api.TokBlank
		}
		var next []api.Reading
		for _, r := range all {
			for n, f := range own {
				last := f.Syllables[len(f.Syllables)-1]
				if k > 0 && r[k-1].Run && f.Syllables[0].From != f.Syllables[0].Nucleus {
					continue
				}
				for _, light := range []bool{false, true} {
					for _, run := range []bool{false, true} {
						if light && (len(f.Syllables) > 1 || last.Stress != 2) || run && (!near || last.To != last.Nucleus+1) {
							continue
						}
						next = append(next, append(slices.Clone(r), api.Choice{Form: n, Light: light, Run: run}))
					}
				}
			}
		}
		all = next
	}
	return all
}

// beats are the beats of a reading: all syllables, those that no Run joins parted.
func beats(x *lexicon.Lexicon, text string, r api.Reading) []api.Beat {
	var out []api.Beat
	k := 0
	for s := range word.Words(text) {
		f := forms(x, text[s.From:s.To], api.RuleFirst)[r[k].Form]
		for n, y := range f.Syllables {
			if r[k].Light {
				y.Stress = 0
			}
			b := api.Beat{Word: k, In: n, Parts: 1, Stress: y.Stress, Heavy: y.Heavy, Ends: n+1 == len(f.Syllables)}
			if n == 0 && k > 0 && r[k-1].Run {
				a := out[len(out)-1]
				out[len(out)-1] = api.Beat{Word: a.Word, In: a.In, Parts: a.Parts + 1, Stress: max(a.Stress, b.Stress), Heavy: true, Ends: b.Ends}
			} else {
				out = append(out, b)
			}
		}
		k++
	}
	return out
}

// P12.2 to P12.8
func TestReadings(t *testing.T) {
	x := book(t)
	c := chance(1)
	for range 600 {
		text := c.of("", "", " ", "-")
		for k := range c.less(6) {
			if k > 0 {
				text += c.of(" ", " ", " ", "  ", ", ", "\xff", " \xff ", "\t", " \u0301", "\n")
			}
			text += c.of("the", "hour", "of", "day", "only", "A", "o", "io", "alto", "o", "a", "\u00d3", "z", "qz")
		}
		l := speak(t, x, text)
		if l.Text() != text || l.Words() != len(slices.Collect(word.Words(text))) {
			t.Fatalf("%q: %q, %d", text, l.Text(), l.Words())
		}
		want := readings(x, text)
		if l.Count() != len(want) {
			t.Fatalf("Count of %q: %d, want %d", text, l.Count(), len(want))
		}
		by := map[int]int{}
		few, many, k := 1<<30, 0, 0
		for r := range l.Each() {
			if k == len(want) || !slices.Equal(r, want[k]) {
				t.Fatalf("%q: the reading %d: %v", text, k, r)
			}
			if n, e := l.Rank(r); n != k || e != api.OK {
				t.Fatalf("%q: Rank(%v): %d, %v, want %d", text, r, n, e, k)
			}
			if got, e := l.Nth(k); !slices.Equal(got, r) || e != api.OK {
				t.Fatalf("%q: Nth(%d): %v, %v", text, k, got, e)
			}
			b, e := l.Beats(r)
			if own := beats(x, text, r); e != api.OK || !slices.Equal(b, own) {
				t.Fatalf("%q: Beats(%v): %v, %v, want %v", text, r, b, e, own)
			}
			by[len(b)]++
			few, many = min(few, len(b)), max(many, len(b))
			k++
		}
		if k != len(want) {
			t.Fatalf("%q: %d readings, want %d", text, k, len(want))
		}
		if a, b := l.Span(); a != few || b != many {
			t.Fatalf("Span of %q: %d, %d, want %d, %d", text, a, b, few, many)
		}
		for n := -1; n < 70; n++ {
			if l.With(n) != by[n] {
				t.Fatalf("%q: With(%d): %d, want %d", text, n, l.With(n), by[n])
			}
		}
		wrong(t, l, want, &c)
	}
}

// wrong asks for readings that are none.
func wrong(t *testing.T, l *line.Line, want []api.Reading, c *chance) {
	t.Helper()
	for _, n := range []int{-1, len(want), -1 << 63, 1<<63 - 1, 1 << 62} {
		if r, e := l.Nth(n); e != api.ErrRange || len(r) > 0 {
			t.Fatalf("%q: Nth(%d): %v, %v", l.Text(), n, r, e)
		}
	}
	for range 10 {
		r := slices.Clone(want[c.less(len(want))])
		switch k := c.less(5); {
		case k == 0:
			r = append(r, api.Choice{})
		case len(r) == 0:
		case k == 1:
			r = r[:len(r)-1]
		case k == 2:
			r[c.less(len(r))].Form = []int{-1, 3, 0, 1, 1 << 40}[c.less(5)]
		case k == 3:
			y := &r[c.less(len(r))]
			y.Light = !y.Light
		default:
			y := &r[c.less(len(r))]
			y.Run = !y.Run
		}
		k := slices.IndexFunc(want, func(y api.Reading) bool { return slices.Equal(y, r) })
		n, e := l.Rank(r)
		b, f := l.Beats(r)
		if k < 0 && (e != api.ErrArg || f != api.ErrArg || n != 0 || len(b) > 0) || k >= 0 && (e != api.OK || f != api.OK || n != k) {
			t.Fatalf("%q: %v: %d, %v, %v", l.Text(), r, n, e, f)
		}
	}
}

// P12.2
func TestWords(t *testing.T) {
	x := book(t)
	text := "the hour, of\xffday - o  io"
	l := speak(t, x, text)
	for k, want := range []string{"the", "hour", "of", "day", "o", "io"} {
		s, e := l.Word(k)
		if e != api.OK || text[s.From:s.To] != want || !runes.Boundary(text, s.From) {
			t.Errorf("Word(%d): %v, %v", k, s, e)
		}
		f, e := l.Forms(k)
		own := forms(x, want, api.RuleFirst)
		same := func(a, b api.Said) bool {
			return slices.Equal(a.Phones, b.Phones) && slices.Equal(a.Syllables, b.Syllables)
		}
		if e != api.OK || !slices.EqualFunc(f, own, same) {
			t.Errorf("Forms(%d): %v, %v", k, f, e)
		}
		f[0].Phones[0].Rune, f[0].Syllables[0].From = 'x', 7
		if again, _ := l.Forms(k); !slices.EqualFunc(again, own, same) {
			t.Errorf("Forms(%d) are shared", k)
		}
		if near := k == 0 || k == 4; l.Near(k) != near {
			t.Errorf("Near(%d) = %v", k, !near)
		}
	}
	for _, k := range []int{-1, 6, 1<<63 - 1, -1 << 63} {
		s, a := l.Word(k)
		f, b := l.Forms(k)
		if a != api.ErrRange || b != api.ErrRange || s != (api.Span{}) || len(f) > 0 || l.Near(k) {
			t.Errorf("the word %d: %v, %v", k, a, b)
		}
	}
	// What becomes of the lexicon does not matter.
	x.Add("the", api.Spoken{Phones: []api.Phone{{Rune: 'o'}}, Stress: []int{0}})
	x.Remove("hour")
	if f, _ := l.Forms(0); len(f) != 2 || l.Count() == 0 {
		t.Error("a line has changed")
	}
}

// P12.1
func TestNew(t *testing.T) {
	x := book(t)
	r, _ := rule.Read("(m) > m\n(a) > a\n(b) > aaaaaaaaaaaaaaaaaaaaaaaaaaaaaaaaa")
	y := lexicon.New(r)
	y.Add("aa", api.Spoken{Phones: []api.Phone{{Rune: 'a'}}, Stress: []int{2}}, api.Spoken{Phones: []api.Phone{{Rune: 'a'}, {Rune: 'a'}}, Stress: []int{2, 0}})
	for k, z := range []struct {
		x    *lexicon.Lexicon
		rule int
		text string
		want api.Errno
	}{
		{nil, 0, strings.Repeat("x", 1025), api.ErrNil}, {x, 0, strings.Repeat("x", 1025), api.ErrArg}, {x, 5, "", api.ErrArg}, {x, -1 << 63, "", api.ErrArg},
		{x, 1, strings.Repeat(" ", 1024), api.OK}, {x, 1, strings.Repeat(" ", 1025), api.ErrLong}, {x, 4, "", api.OK},
		{x, 1, "the frob", api.ErrNone}, {x, 1, "m", api.ErrNucleus}, {x, 1, "m frob", api.ErrNucleus}, {x, 1, "frob m", api.ErrNone},
		{y, 1, "bb", api.ErrLong}, {y, 1, "bb frob", api.ErrLong}, {y, 1, "b b", api.ErrLong}, {y, 1, "b b xyz", api.ErrNone}, {y, 1, "b", api.OK},
		{y, 1, strings.Repeat("a ", 64), api.OK}, {y, 1, strings.Repeat("a ", 65), api.ErrLong}, {y, 1, strings.Repeat("aa ", 32), api.OK}, {y, 1, strings.Repeat("aa ", 32) + "a", api.ErrLong}, {y, 1, strings.Repeat("aa ", 32) + "a m", api.ErrNucleus},
	} {
		if l, e := line.New(z.x, z.rule, z.text); e != z.want || (l == nil) != (e != api.OK) {
			t.Errorf("%d: New(%.20q): %v, want %v", k, z.text, e, z.want)
		}
	}
	last, _ := line.New(x, api.RuleLast, "qz")
	if f, _ := last.Forms(0); len(f) != 1 || f[0].Syllables[3].Stress != 2 || f[0].Syllables[0].Stress != 0 {
		t.Error("the rule of stress", f)
	}
}

// P12.3, P12.5: more readings than are counted.
func TestMany(t *testing.T) {
	x := lexicon.New(nil)
	var ways []api.Spoken
	for _, r := range "aeiouy\u0259\u0254" {
		ways = append(ways, api.Spoken{Phones: []api.Phone{{Rune: r}}, Stress: []int{2}})
	}
	x.Add("o", ways...)
	x.Add("p", ways[:1]...)
	const most = 1 << 62
	l := speak(t, x, strings.TrimSuffix(strings.Repeat("o ", 64), " "))
	if l.Count() != most || l.With(40) != most || l.With(65) != 0 {
		t.Error("Count", l.Count())
	}
	if a, b := l.Span(); a != 1 || b != 64 {
		t.Error("Span", a, b)
	}
	// Sixty-two words of two ways each that do not run: just 2^62.
	two := speak(t, x, strings.TrimSuffix(strings.Repeat("p,", 62), ","))
	if two.Count() != most || two.With(62) != most {
		t.Error("just as many", two.Count())
	}
	if one := speak(t, x, strings.Repeat("p,", 61)); one.Count() != most/2 {
		t.Error("half as many", one.Count())
	}
	for _, n := range []int{0, 1, 12345, 1<<61 + 7, most - 1} {
		for _, y := range []*line.Line{l, two} {
			r, e := y.Nth(n)
			if k, f := y.Rank(r); e != api.OK || f != api.OK || k != n {
				t.Errorf("Rank of Nth(%d): %d, %v, %v", n, k, e, f)
			}
		}
	}
	if _, e := two.Nth(most); e != api.ErrRange {
		t.Error("Nth", e)
	}
	last := make(api.Reading, 64)
	for k := range last {
		last[k] = api.Choice{Form: 7, Light: true, Run: k < 63}
	}
	if n, e := l.Rank(last); n != most || e != api.OK {
		t.Error("Rank of the last one", n, e)
	}
	n := 0
	for range l.Each() {
		if n++; n == 1000 {
			break
		}
	}
}

// The examples of the chapter.
func TestExamples(t *testing.T) {
	x := book(t)
	l := speak(t, x, "the hour")
	a, b := l.Span()
	if l.Count() != 8 || a != 1 || b != 2 || l.With(1) != 4 || l.With(2) != 4 {
		t.Error("the hour:", l.Count(), a, b)
	}
	if got, _ := l.Beats(api.Reading{{Run: true}, {}}); !slices.Equal(got, []api.Beat{{Parts: 2, Stress: 2, Heavy: true, Ends: true}}) {
		t.Error("Beats", got)
	}
	if r, _ := l.Nth(2); !slices.Equal(r, api.Reading{{Run: true}, {}}) {
		t.Error("Nth(2)", r)
	}
	if n, _ := l.Rank(api.Reading{{Form: 1}, {}}); n != 4 {
		t.Error("Rank", n)
	}
	if l := speak(t, x, "the, hour"); l.Count() != 4 || l.Near(0) {
		t.Error("the, hour:", l.Count())
	}
	want := []api.Beat{{Word: 0, In: 0, Parts: 1, Stress: 2, Heavy: true}, {Word: 0, In: 1, Parts: 3, Stress: 2, Heavy: true, Ends: true}}
	if got, _ := speak(t, x, "only a hour").Beats(api.Reading{{Run: true}, {Run: true}, {}}); !slices.Equal(got, want) {
		t.Error("only a hour:", got)
	}
	l = speak(t, x, "")
	a, b = l.Span()
	got, e := l.Beats(nil)
	if l.Count() != 1 || a != 0 || b != 0 || len(got) != 0 || e != api.OK || l.With(0) != 1 {
		t.Error("the empty text")
	}
}

// R4
func TestNil(t *testing.T) {
	var l *line.Line
	_, a := l.Word(0)
	_, b := l.Forms(0)
	_, c := l.Beats(nil)
	_, d := l.Nth(0)
	_, e := l.Rank(nil)
	f, g := l.Span()
	if a != api.ErrNil || b != api.ErrNil || c != api.ErrNil || d != api.ErrNil || e != api.ErrNil || f+g != 0 || l.Text() != "" || l.Words() != 0 || l.Near(0) || l.Count() != 0 || l.With(0) != 0 || len(slices.Collect(l.Each())) != 0 {
		t.Error("a nil line")
	}
}
