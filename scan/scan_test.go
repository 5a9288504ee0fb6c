package scan_test

import (
	"slices"
	"strings"
	"testing"
	"time"

	"canticle/api"
	"canticle/lexicon"
	"canticle/line"
	"canticle/metre"
	"canticle/scan"
)

type chance uint64

func (c *chance) less(n int) int {
	*c = *c*6364136223846793005 + 1442695040888963407
	return int(uint64(*c)>>33) % n
}

func (c *chance) of(l ...string) string { return l[c.less(len(l))] }

func book(t *testing.T) *lexicon.Lexicon {
	t.Helper()
	x, bad := lexicon.Read("the = \u00f0\u0259, \u00f0i\nhour = \u02c8au\u032fr\nof = \u02c8\u0254v\nday = d\u02c8e\u02d0\nonly = \u02c8o\u02d0nli\na = \u0259\no = \u02c8o, \u02cco\nio = \u02c8io, jo\nalto = \u02c8alt\u02cco\n", nil)
	if bad.Err != api.OK {
		t.Fatal(bad)
	}
	return x
}

func speak(t *testing.T, x *lexicon.Lexicon, text string) *line.Line {
	t.Helper()
	l, e := line.New(x, api.RuleFirst, text)
	if e != api.OK {
		t.Fatalf("New(%q): %v", text, e)
	}
	return l
}

func measure(t *testing.T, text string) api.Metre {
	t.Helper()
	m, bad := metre.Read(text)
	if bad.Err != api.OK {
		t.Fatalf("%q: %v", text, bad)
	}
	return m
}

// cost is what the chapter says a reading costs beside a pattern of as many signs.
func cost(m api.Metre, r api.Rates, reading api.Reading, beats []api.Beat, p api.Pattern) int {
	n := p.Cost
	for k, b := range beats {
		if p.Signs[k] == '/' {
			n += r.Strong[b.Stress]
		} else {
			n += r.Weak[b.Stress]
		}
	}
	for _, c := range reading {
		if c.Light {
			n += r.Light
		}
		if c.Run {
			n += r.Run
		}
		if c.Form > 0 {
			n += r.Form
		}
	}
	at := 0
	for k, f := range m.Feet {
		own := append([]string{f.Own}, signs(f.Others)...)
		at += len(own[p.Choice[k]])
		for _, b := range m.Breaks {
			if b.After == k+1 && !beats[at-1].Ends {
				n += b.Cost
			}
		}
	}
	return n
}

func signs(l []api.Variant) []string {
	var out []string
	for _, v := range l {
		out = append(out, v.Signs)
	}
	return out
}

func same(a, b api.Scansion) bool {
	return a.Cost == b.Cost && slices.Equal(a.Reading, b.Reading) && slices.Equal(a.Choice, b.Choice)
}

// made is a metre and rates by chance.
func (c *chance) made(t *testing.T) (api.Metre, api.Rates) {
	text := c.of("", "2 ", "3 ") + c.of("iamb", "trochee", "xx/", "x", "/")
	if c.less(2) == 0 {
		text += "; any " + c.of("// ", "xx ", "x/x ", "x// ") + c.of("0", "1", "2")
	}
	if c.less(2) == 0 {
		text += "; 1 xxx " + c.of("0", "1") + ", //x 1"
	}
	if c.less(2) == 0 {
		text += "; end x " + c.of("0", "1", "2") + c.of("", ", x/ 1")
	}
	if strings.ContainsAny(text[:1], "23") && c.less(2) == 0 {
		text += "; break 1 " + c.of("1", "2")
	}
	n := func() int { return c.less(4) }
	return measure(t, text), api.Rates{Strong: [3]int{n(), n(), n()}, Weak: [3]int{n(), n(), n()}, Light: n(), Run: n(), Form: n()}
}

// P14.2 to P14.6, P14.8 to P14.11
func TestAll(t *testing.T) {
	x := book(t)
	c := chance(1)
	for range 1500 {
		text := ""
		for k := range c.less(5) {
			if k > 0 {
				text += c.of(" ", " ", " ", ", ", " \xff ")
			}
			text += c.of("the", "hour", "of", "day", "only", "A", "o", "io", "alto", "o")
		}
		l := speak(t, x, text)
		m, r := c.made(t)
		if c.less(8) == 0 {
			r = scan.House()
		}
		var all []api.Scansion
		for reading := range l.Each() {
			beats, _ := l.Beats(reading)
			for p := range metre.Patterns(m) {
				if len(p.Signs) == len(beats) {
					all = append(all, api.Scansion{Reading: reading, Choice: p.Choice, Cost: cost(m, r, reading, beats, p)})
				} else if n, e := scan.Cost(l, m, r, reading, p.Choice); n != 0 || e != api.ErrNone {
					t.Fatalf("Cost of %q, unlike many: %d, %v", text, n, e)
				}
			}
		}
		if n, e := scan.Count(l, m); n != len(all) || e != api.OK {
			t.Fatalf("Count of %q by %v: %d, %v, want %d", text, m, n, e, len(all))
		}
		best := 1 << 40
		for _, s := range all {
			best = min(best, s.Cost)
			if n, e := scan.Cost(l, m, r, s.Reading, s.Choice); n != s.Cost || e != api.OK {
				t.Fatalf("Cost of %q: %v: %d, %v", text, s, n, e)
			}
		}
		first := slices.DeleteFunc(slices.Clone(all), func(s api.Scansion) bool { return s.Cost > best })
		n, k, e := scan.Least(l, m, r)
		b, f := scan.Best(l, m, r)
		got := slices.Collect(scan.Each(l, m, r))
		if len(all) == 0 {
			if e != api.ErrNone || f != api.ErrNone || n+k != 0 || !same(b, api.Scansion{}) || len(got) > 0 {
				t.Fatalf("%q by %v: %d, %d, %v; %v, %v", text, m, n, k, e, b, f)
			}
			continue
		}
		if e != api.OK || n != best || k != len(first) {
			t.Fatalf("Least of %q by %v, %v: %d, %d, %v, want %d, %d", text, m, r, n, k, e, best, len(first))
		}
		if f != api.OK || !same(b, first[0]) {
			t.Fatalf("Best of %q by %v, %v: %v, %v, want %v", text, m, r, b, f, first[0])
		}
		if !slices.EqualFunc(got, first, same) {
			t.Fatalf("Each of %q by %v, %v: %v, want %v", text, m, r, got, first)
		}
		for range scan.Each(l, m, r) {
			break
		}
		shown(t, l, m, all[c.less(len(all))])
		twice(t, l, m, r, b)
	}
}

// shown holds Feet and Show against the scansion itself.
func shown(t *testing.T, l *line.Line, m api.Metre, s api.Scansion) {
	t.Helper()
	var parts []string
	for k, n := range s.Choice {
		own := append([]string{""}, signs(m.Ends)...)
		if k < len(m.Feet) {
			own = append([]string{m.Feet[k].Own}, signs(m.Feet[k].Others)...)
		}
		if own[n] != "" {
			parts = append(parts, own[n])
		}
	}
	spans, e := scan.Feet(l, m, s)
	at := 0
	for k, p := range parts {
		if e != api.OK || k == len(spans) || spans[k] != (api.Span{From: at, To: at + len(p)}) {
			t.Fatalf("Feet of %q, %v: %v, %v", l.Text(), s, spans, e)
		}
		at += len(p)
	}
	if beats, _ := l.Beats(s.Reading); len(spans) != len(parts) || at != len(beats) {
		t.Fatalf("Feet of %q, %v: %v", l.Text(), s, spans)
	}
	want := strings.Join(parts, "|")
	for k := range s.Reading {
		w, _ := l.Word(k)
		sign := " "
		if k > 0 && s.Reading[k-1].Run {
			sign = "_"
		}
		want += sign + l.Text()[w.From:w.To]
	}
	s.Cost = 77
	if got, e := scan.Show(l, m, s); got != want || e != api.OK {
		t.Fatalf("Show of %q, %v: %q, %v, want %q", l.Text(), s, got, e, want)
	}
}

// twice asks by rates and costs that are twice as great.
func twice(t *testing.T, l *line.Line, m api.Metre, r api.Rates, best api.Scansion) {
	t.Helper()
	text, _ := metre.Print(m)
	two := measure(t, text)
	for k := range two.Feet {
		for j := range two.Feet[k].Others {
			two.Feet[k].Others[j].Cost *= 2
		}
	}
	for k := range two.Ends {
		two.Ends[k].Cost *= 2
	}
	for k := range two.Breaks {
		two.Breaks[k].Cost *= 2
	}
	for k := range 3 {
		r.Strong[k], r.Weak[k] = 2*r.Strong[k], 2*r.Weak[k]
	}
	r.Light, r.Run, r.Form = 2*r.Light, 2*r.Run, 2*r.Form
	best.Cost *= 2
	if got, e := scan.Best(l, two, r); e != api.OK || !same(got, best) {
		t.Fatalf("twice as dear: %v, %v, want %v", got, e, best)
	}
	n, _, _ := scan.Least(l, two, api.Rates{})
	if k, _, _ := scan.Least(l, two, r); n > k {
		t.Fatalf("no rates: %d, some: %d", n, k)
	}
}

// P14.1
func TestRates(t *testing.T) {
	if r := scan.House(); r != (api.Rates{Strong: [3]int{3, 1, 0}, Weak: [3]int{0, 1, 3}, Light: 1, Run: 1, Form: 0}) {
		t.Error("House", r)
	}
	x := book(t)
	l, m := speak(t, x, "the day"), measure(t, "iamb")
	for k := range 9 {
		for _, n := range []int{-1, 0, api.MaxCost, api.MaxCost + 1, 1 << 62, -1 << 63} {
			var r api.Rates
			*[]*int{&r.Strong[0], &r.Strong[1], &r.Strong[2], &r.Weak[0], &r.Weak[1], &r.Weak[2], &r.Light, &r.Run, &r.Form}[k] = n
			want := api.OK
			if n < 0 || n > api.MaxCost {
				want = api.ErrArg
			}
			_, a := scan.Cost(l, m, r, api.Reading{{}, {}}, []int{0, 0})
			_, _, b := scan.Least(l, m, r)
			_, c := scan.Best(l, m, r)
			_, _, d := scan.Which(l, []api.Metre{m}, r)
			if scan.Check(r) != want || a != want || b != want || c != want || d != want {
				t.Errorf("%v: %v %v %v %v", r, a, b, c, d)
			}
			if n := len(slices.Collect(scan.Each(l, m, r))); (n > 0) != (want == api.OK) {
				t.Errorf("Each by %v: %d", r, n)
			}
		}
	}
}

// The errors, in their order.
func TestErrors(t *testing.T) {
	x := book(t)
	l, m, r := speak(t, x, "the day"), measure(t, "iamb"), scan.House()
	var none api.Metre
	bad := api.Rates{Light: -1}
	good := api.Scansion{Reading: api.Reading{{}, {}}, Choice: []int{0, 0}}
	for k, y := range []struct {
		l    *line.Line
		m    api.Metre
		r    api.Rates
		s    api.Scansion
		want api.Errno
	}{
		{nil, none, bad, api.Scansion{}, api.ErrNil}, {l, none, r, good, api.ErrArg}, {l, m, r, good, api.OK},
		{l, m, r, api.Scansion{Reading: api.Reading{{}}, Choice: []int{0, 0}}, api.ErrArg}, {l, m, r, api.Scansion{Reading: good.Reading, Choice: []int{0}}, api.ErrArg}, {l, m, r, api.Scansion{Reading: good.Reading, Choice: []int{0, 1}}, api.ErrArg}, {l, m, r, api.Scansion{Reading: good.Reading, Choice: []int{-1, 0}}, api.ErrArg}, {l, m, r, api.Scansion{Reading: good.Reading, Choice: []int{0, 0, 0}}, api.ErrArg}, {l, m, r, api.Scansion{Reading: api.Reading{{Run: true}, {}}, Choice: []int{0, 0}}, api.ErrArg},
		{l, measure(t, "2 iamb"), r, api.Scansion{Reading: good.Reading, Choice: []int{0, 0, 0}}, api.ErrNone}, {l, measure(t, "iamb; end x 1"), r, api.Scansion{Reading: good.Reading, Choice: []int{0, 1}}, api.ErrNone},
	} {
		a, e := scan.Cost(y.l, y.m, y.r, y.s.Reading, y.s.Choice)
		b, f := scan.Feet(y.l, y.m, y.s)
		c, g := scan.Show(y.l, y.m, y.s)
		if e != y.want || f != y.want || g != y.want || y.want != api.OK && (a != 0 || len(b) > 0 || c != "") {
			t.Errorf("%d: %v, %v, %v, want %v", k, e, f, g, y.want)
		}
	}
	if _, e := scan.Count(nil, none); e != api.ErrNil {
		t.Error("Count", e)
	}
	if _, e := scan.Count(l, none); e != api.ErrArg {
		t.Error("Count", e)
	}
	if _, _, e := scan.Least(nil, none, bad); e != api.ErrNil {
		t.Error("Least", e)
	}
	if _, e := scan.Best(nil, none, bad); e != api.ErrNil {
		t.Error("Best", e)
	}
	if _, _, e := scan.Least(l, none, r); e != api.ErrArg {
		t.Error("Least", e)
	}
	if len(slices.Collect(scan.Each(nil, m, r)))+len(slices.Collect(scan.Each(l, none, r))) > 0 {
		t.Error("Each")
	}
}

// P14.7
func TestWhich(t *testing.T) {
	x := book(t)
	l, r := speak(t, x, "the day"), scan.House()
	iamb, two, trochee := measure(t, "iamb"), measure(t, "2 iamb"), measure(t, "trochee")
	if k, n, e := scan.Which(l, []api.Metre{two, iamb, trochee, iamb}, r); k != 1 || n != 0 || e != api.OK {
		t.Error(k, n, e)
	}
	if k, n, e := scan.Which(l, []api.Metre{two, trochee, trochee}, r); k != 1 || n != 4 || e != api.OK {
		t.Error(k, n, e)
	}
	for k, y := range []struct {
		l    *line.Line
		ms   []api.Metre
		r    api.Rates
		want api.Errno
	}{
		{nil, []api.Metre{{}}, r, api.ErrNil}, {l, []api.Metre{iamb, {}}, r, api.ErrArg}, {l, []api.Metre{two}, r, api.ErrNone}, {l, nil, r, api.ErrNone}, {l, nil, api.Rates{Run: -1}, api.ErrArg},
		{l, slices.Repeat([]api.Metre{iamb}, 256), r, api.OK}, {l, slices.Repeat([]api.Metre{iamb}, 257), r, api.ErrLong}, {l, make([]api.Metre, 257), r, api.ErrArg}, {l, slices.Repeat([]api.Metre{iamb}, 257), api.Rates{Run: -1}, api.ErrArg},
	} {
		if a, b, e := scan.Which(y.l, y.ms, y.r); e != y.want || a+b != 0 {
			t.Errorf("%d: %d, %d, %v, want %v", k, a, b, e, y.want)
		}
	}
}

// The examples of the chapter.
func TestExamples(t *testing.T) {
	x, r := book(t), scan.House()
	two := measure(t, "2 iamb")
	l := speak(t, x, "the day of hour")
	if n, k, e := scan.Least(l, two, r); n != 1 || k != 2 || e != api.OK {
		t.Error("Least", n, k, e)
	}
	b, _ := scan.Best(l, two, r)
	if !same(b, api.Scansion{Reading: api.Reading{{}, {}, {Light: true}, {}}, Choice: []int{0, 0, 0}, Cost: 1}) {
		t.Error("Best", b)
	}
	if s, _ := scan.Show(l, two, b); s != "x/|x/ the day of hour" {
		t.Error("Show", s)
	}
	day := speak(t, x, "the day")
	if n, k, _ := scan.Least(day, measure(t, "iamb"), r); n != 0 || k != 2 {
		t.Error("the day", n, k)
	}
	if n, _ := scan.Count(day, measure(t, "iamb")); n != 4 {
		t.Error("Count", n)
	}
	if n, k, _ := scan.Least(speak(t, x, "the hour"), measure(t, "iamb; end x 1"), r); n != 0 || k != 2 {
		t.Error("the hour", n, k)
	}
	if _, _, e := scan.Least(speak(t, x, "a day"), measure(t, "dactyl"), r); e != api.ErrNone {
		t.Error("a day", e)
	}
	if n, _ := scan.Cost(day, measure(t, "iamb"), r, api.Reading{{}, {Light: true}}, []int{0, 0}); n != 4 {
		t.Error("Cost", n)
	}
	empty := speak(t, x, "")
	if n, e := scan.Count(empty, measure(t, "iamb")); n != 0 || e != api.OK {
		t.Error("the empty line", n, e)
	}
	if _, _, e := scan.Least(empty, measure(t, "iamb"), r); e != api.ErrNone {
		t.Error("the empty line", e)
	}
}

// P14.3, P14.4: more than are counted, and in time.
func TestMany(t *testing.T) {
	x := lexicon.New(nil)
	var ways []api.Spoken
	for _, r := range "aeiouy\u0259\u0254" {
		ways = append(ways, api.Spoken{Phones: []api.Phone{{Rune: r}}, Stress: []int{2}})
	}
	x.Add("o", ways...)
	l := speak(t, x, strings.TrimSuffix(strings.Repeat("o ", 64), " "))
	m := measure(t, "16 x; any /x 0, // 0, xx 0, / 0, xxx 0, xx/ 0, x/x 0, x// 0, /xx 0, /x/ 0, //x 0, /// 0, xxxx 0, //// 0, x/ 0; end x 0, / 0, xx 0, // 0")
	begun := time.Now()
	if n, e := scan.Count(l, m); n != 1<<62 || e != api.OK {
		t.Error("Count", n, e)
	}
	if n, k, e := scan.Least(l, m, api.Rates{}); n != 0 || k != 1<<62 || e != api.OK {
		t.Error("Least", n, k, e)
	}
	n := 0
	for s := range scan.Each(l, m, scan.House()) {
		if k, e := scan.Cost(l, m, scan.House(), s.Reading, s.Choice); k != s.Cost || e != api.OK {
			t.Fatal(k, e)
		}
		if n++; n == 100 {
			break
		}
	}
	if n != 100 {
		t.Error("Each", n)
	}
	if time.Since(begun) > 20*time.Second {
		t.Error("too slow:", time.Since(begun))
	}
}
