package find_test

import (
	"cmp"
	"slices"
	"strconv"
	"strings"
	"testing"

	"canticle/api"
	"canticle/concord"
	"canticle/find"
	"canticle/fold"
	"canticle/lexicon"
	"canticle/phone"
	"canticle/poem"
	"canticle/runes"
)

type chance uint64

func (c *chance) less(n int) int {
	*c = *c*6364136223846793005 + 1442695040888963407
	return int(uint64(*c)>>33) % n
}

func (c *chance) of(l ...string) string { return l[c.less(len(l))] }

func concordance(t *testing.T, texts ...string) *concord.Concord {
	t.Helper()
	var poems []*poem.Poem
	for _, s := range texts {
		p, bad := poem.Read(s)
		if bad.Err != api.OK {
			t.Fatal(bad)
		}
		poems = append(poems, p)
	}
	c, e := concord.New(poems...)
	if e != api.OK {
		t.Fatal(e)
	}
	return c
}

func book(t *testing.T) *lexicon.Lexicon {
	t.Helper()
	x, bad := lexicon.Read("rose = r\u02c8oz\nnose = n\u02c8oz, n\u02c8os\nthe = \u00f0\u0259\noh = \u02c8o\nros = r\u02c8\u0254s\ndon't = d\u02c8ont\n", nil)
	if bad.Err != api.OK {
		t.Fatal(bad)
	}
	return x
}

func finder(t *testing.T, c *concord.Concord, x *lexicon.Lexicon) *find.Finder {
	t.Helper()
	f, e := find.New(c, x)
	if e != api.OK || f == nil {
		t.Fatal(e)
	}
	return f
}

func pieces(s string) []string {
	var l []string
	for p := range runes.Pieces(fold.Fold(s)) {
		l = append(l, fold.Fold(s)[p.At:p.At+p.Width])
	}
	return l
}

// apart is the fewest edits, found from the ends.
func apart(a, b []string) int {
	rows := make([][]int, len(a)+1)
	for i := len(a); i >= 0; i-- {
		rows[i] = make([]int, len(b)+1)
		for j := len(b); j >= 0; j-- {
			switch {
			case i == len(a):
				rows[i][j] = len(b) - j
			case j == len(b):
				rows[i][j] = len(a) - i
			default:
				n := rows[i+1][j+1]
				if a[i] != b[j] {
					n++
				}
				rows[i][j] = min(n, rows[i+1][j]+1, rows[i][j+1]+1)
			}
		}
	}
	return rows[0][0]
}

func like(p, s []string) bool {
	switch {
	case len(p) == 0:
		return len(s) == 0
	case p[0] == "*":
		return like(p[1:], s) || len(s) > 0 && like(p, s[1:])
	}
	return len(s) > 0 && (p[0] == "?" || p[0] == s[0]) && like(p[1:], s[1:])
}

func (c *chance) word() string {
	s := ""
	for range c.less(7) {
		s += c.of("a", "b", "R", "o", "\u00f6", "\u00df", "e", "\xff", "\u0301", "\u03c2", "'")
	}
	return s
}

// P23.1, P23.8
func TestApart(t *testing.T) {
	c := chance(1)
	last, older := "", "ab"
	for range 4000 {
		s := c.word()
		for _, u := range []string{last, older, s} {
			want := apart(pieces(s), pieces(u))
			n, e := find.Apart(s, u)
			if n != want || e != api.OK || (n == 0) != fold.Same(s, u) || n > max(len(pieces(s)), len(pieces(u))) {
				t.Fatalf("Apart(%q, %q): %d, %v, want %d", s, u, n, e, want)
			}
		}
		a, _ := find.Apart(s, last)
		b, _ := find.Apart(last, older)
		if n, _ := find.Apart(s, older); n > a+b {
			t.Fatalf("Apart(%q, %q) by way of %q", s, older, last)
		}
		p := ""
		for _, x := range pieces(s) {
			p += c.of(x, x, "?", "*", "**", "", x+"*")
		}
		for _, u := range []string{s, last} {
			if got := find.Like(p, u); got != like(pieces(p), pieces(u)) {
				t.Fatalf("Like(%q, %q): %v", p, u, got)
			}
		}
		older, last = last, s
	}
	long := strings.Repeat("a", api.MaxLine)
	for k, x := range []struct {
		a, b string
		n    int
		e    api.Errno
	}{{long, "", 1024, api.OK}, {long + "a", "", 0, api.ErrLong}, {"", long + "a", 0, api.ErrLong}, {long[1:] + "\u00df", "", 0, api.ErrLong}, {long, long[1:] + "b", 1, api.OK}, {strings.Repeat("e\u0301", 1024), long, 1024, api.OK}} {
		if n, e := find.Apart(x.a, x.b); n != x.n || e != x.e {
			t.Errorf("%d: Apart: %d, %v", k, n, e)
		}
	}
	if !find.Like(strings.Repeat("*a", 200)+"*", strings.Repeat("a", 20000)) || find.Like(strings.Repeat("*a", 200)+"*b", strings.Repeat("a", 20000)) {
		t.Error("Like of long texts")
	}
}

type near struct {
	key string
	far int
}

// P23.2 to P23.4, P23.9
func TestKeys(t *testing.T) {
	ch := chance(2)
	for range 120 {
		text := ""
		for range 1 + ch.less(4) {
			for range ch.less(6) {
				text += ch.of("rose", "nose", "Ros", "r\u00f6ses", "oh", "o", "the", "then", "don't", "\u03c3\u03b1\u03c2", "abcdefghijkl", "stra\u00dfe", ch.word()) + " "
			}
			text += "\n"
		}
		c, x := concordance(t, text), book(t)
		f := finder(t, c, x)
		var keys []string
		for k := range c.Words() {
			keys = append(keys, k)
		}
		if got := slices.Collect(f.Match("*")); !slices.Equal(got, keys) {
			t.Fatalf("Match(*): %q", got)
		}
		// What is added behind New is not known.
		x.Add("then", api.Spoken{Phones: []api.Phone{{Rune: 'o'}}, Stress: []int{0}})
		x.Remove("oh")
		y := book(t)
		for _, w := range []string{"rose", "ROS", "oh", "", "then", "x", "\u03c3\u03b1\u03c3", "don\u2019t", "strasse", "abcdefghijklmnopqrstu", ch.word()} {
			var edits, sounds []near
			best, places := near{}, 0
			for _, k := range keys {
				n := apart(pieces(w), pieces(k))
				edits = append(edits, near{k, n})
				if n <= api.MaxEdits && (places == 0 || n < best.far || n == best.far && c.Count(k) > places) {
					best, places = near{k, n}, c.Count(k)
				}
				if d := heard(y, w, k); d >= 0 {
					sounds = append(sounds, near{k, d})
				}
			}
			for most := -1; most <= 10; most++ {
				same(t, w, most, f.Within(w, most), edits, most >= 0 && most <= api.MaxEdits)
			}
			for _, most := range []int{-1, 0, 5, 20, 999, 1000, 1<<63 - 1, -1 << 63} {
				same(t, w, most, f.Sounds(w, most), sounds, most >= 0 && most <= api.MaxFar)
			}
			k, n, e := f.Guess(w)
			if places == 0 && (e != api.ErrNone || k != "" || n != 0) || places > 0 && (e != api.OK || k != best.key || n != best.far) {
				t.Fatalf("Guess(%q): %q, %d, %v, want %v", w, k, n, e, best)
			}
			p := strings.ReplaceAll(w, "o", "?") + ch.of("", "*")
			want := slices.DeleteFunc(slices.Clone(keys), func(k string) bool { return !like(pieces(p), pieces(k)) })
			if got := slices.Collect(f.Match(p)); !slices.Equal(got, want) {
				t.Fatalf("Match(%q): %q", p, got)
			}
		}
		for range f.Within("o", 9) {
			break
		}
		for range f.Match("*") {
			break
		}
		mute := finder(t, c, nil)
		for range mute.Sounds("rose", 999) {
			t.Fatal("sounds without a lexicon")
		}
	}
}

// heard is how far two words sound apart; -1, if nothing can be said.
func heard(x *lexicon.Lexicon, a, b string) int {
	best := -1
	p, _ := x.Sounds(a)
	q, _ := x.Sounds(b)
	for _, s := range p {
		for _, u := range q {
			if n, e := phone.Distance(s.Phones, u.Phones); e == api.OK && (best < 0 || n < best) {
				best = n
			}
		}
	}
	return best
}

func same(t *testing.T, w string, most int, seq func(func(string, int) bool), l []near, right bool) {
	t.Helper()
	var want, got []near
	for _, x := range l {
		if right && x.far <= most {
			want = append(want, x)
		}
	}
	slices.SortFunc(want, func(a, b near) int { return cmp.Or(a.far-b.far, strings.Compare(a.key, b.key)) })
	for k, n := range seq {
		got = append(got, near{k, n})
	}
	if !slices.Equal(got, want) {
		t.Fatalf("%q within %d: %v, want %v", w, most, got, want)
	}
}

// ask is a question: its text in the one form, and which lines answer it.
type ask struct {
	in, out string
	kind    int // 0 a part, 1 a both of several, 2 several boths
	lines   func(line [2]int) bool
}

// hits are the places of a concordance, in order, with their keys.
type hit struct {
	api.Hit
	key string
}

func hits(c *concord.Concord) []hit {
	var l []hit
	for k := range c.Words() {
		for _, h := range c.Places(k) {
			l = append(l, hit{h, k})
		}
	}
	slices.SortFunc(l, func(a, b hit) int { return cmp.Or(a.Poem-b.Poem, a.Number-b.Number) })
	return l
}

// term makes a term by chance, and tells its places.
func (c *chance) term(x *lexicon.Lexicon, all []hit) (string, string, []hit) {
	w := c.of("rose", "the", "OH", "ros", "r\u00f6se", "o", "nose", "x")
	is := func(ok func(h hit) bool) []hit {
		return slices.DeleteFunc(slices.Clone(all), func(h hit) bool { return !ok(h) })
	}
	switch c.less(5) {
	case 0:
		p := c.of("r*", "*e", "?o*", "*", "t?e", "R?S*")
		return p, p, is(func(h hit) bool { return like(pieces(p), pieces(h.key)) })
	case 1:
		n := c.less(3)
		s := w + "~" + strconv.Itoa(n)
		return s, s, is(func(h hit) bool { return apart(pieces(w), pieces(h.key)) <= n })
	case 2:
		n, s := 0, "="+w
		if c.less(2) == 0 {
			n = c.less(30)
			s += "~" + strconv.Itoa(n)
		}
		return s, s, is(func(h hit) bool { d := heard(x, w, h.key); return d >= 0 && d <= n })
	case 3:
		words := []string{w}
		for range c.less(3) {
			words = append(words, c.of("rose", "the", "oh"))
		}
		s := strings.Join(words, " ")
		found := is(func(h hit) bool {
			at := slices.IndexFunc(all, func(g hit) bool { return g.Hit == h.Hit })
			for k, w := range words {
				if at+k >= len(all) || all[at+k].key != fold.Fold(w) || all[at+k].Poem != h.Poem || all[at+k].Line != h.Line {
					return false
				}
			}
			return true
		})
		return `"` + c.of("", " ") + strings.Join(words, c.of(" ", "  ")) + c.of("", " ") + `"`, `"` + s + `"`, found
	}
	return w, w, is(func(h hit) bool { return h.key == fold.Fold(w) })
}

func has(l []hit, line [2]int) bool {
	return slices.ContainsFunc(l, func(h hit) bool { return h.Poem == line[0] && h.Line == line[1] })
}

func (c *chance) ask(x *lexicon.Lexicon, all []hit, deep int) ask {
	gap := func() string { return c.of(" ", " ", "  ") }
	part := func() ask {
		k := c.less(8)
		switch {
		case k < 2 && deep > 0:
			a := c.ask(x, all, deep-1)
			a.in = "(" + c.of("", " ") + a.in + c.of("", " ") + ")"
			return a
		case k == 2 && deep > 0:
			a := c.ask(x, all, deep-1)
			in := a.in
			if strings.ContainsAny(in, " ") || c.less(2) == 0 {
				in = "(" + in + ")"
			}
			out := a.out
			if a.kind > 0 {
				out = "(" + out + ")"
			}
			return ask{"not" + c.of(" ", "  ") + in, "not " + out, 0, func(l [2]int) bool { return !a.lines(l) }}
		case k == 3:
			in, out, places := c.term(x, all)
			on, to, others := c.term(x, all)
			n := c.less(4)
			far := strconv.Itoa(n)
			if c.less(2) == 0 {
				far = "0" + far
			}
			var close []hit
			for _, h := range places {
				if slices.ContainsFunc(others, func(g hit) bool {
					return g.Hit != h.Hit && g.Poem == h.Poem && max(g.Number-h.Number, h.Number-g.Number) <= n
				}) {
					close = append(close, h)
				}
			}
			return ask{in + " /" + far + gap() + on, out + " /" + strconv.Itoa(n) + " " + to, 0, func(l [2]int) bool { return has(close, l) }}
		}
		in, out, places := c.term(x, all)
		return ask{in, out, 0, func(l [2]int) bool { return has(places, l) }}
	}
	both := func() ask {
		a := part()
		for range c.less(3) {
			b := part()
			in := a.in + gap() + c.of("", "and"+gap()) + b.in
			wrap := func(a ask) string {
				if a.kind == 2 {
					return "(" + a.out + ")"
				}
				return a.out
			}
			x, y := a.lines, b.lines
			a = ask{in, wrap(a) + " and " + wrap(b), 1, func(l [2]int) bool { return x(l) && y(l) }}
		}
		return a
	}
	a := both()
	for range c.less(3) {
		b := both()
		x, y := a.lines, b.lines
		a = ask{a.in + gap() + "or" + gap() + b.in, a.out + " or " + b.out, 2, func(l [2]int) bool { return x(l) || y(l) }}
	}
	return a
}

// P23.5 to P23.7, P23.10, P23.11
func TestQuestions(t *testing.T) {
	c := concordance(t, "# T\nOh the rose\nthe R\u00f6se!\n\n1\n", "rose, rose\nnose the oh\n", "x", "", "ros\noh oh the rose the\n")
	x := book(t)
	f := finder(t, c, x)
	all := hits(c)
	var lines [][2]int
	for _, h := range all {
		if l := [2]int{h.Poem, h.Line}; !slices.Contains(lines, l) {
			lines = append(lines, l)
		}
	}
	collect := func(seq func(func(int, int) bool)) [][2]int {
		var l [][2]int
		for p, k := range seq {
			l = append(l, [2]int{p, k})
		}
		return l
	}
	if got := collect(f.All()); !slices.Equal(got, lines) {
		t.Fatal("All", got)
	}
	ch := chance(3)
	for range 4000 {
		a := ch.ask(x, all, 3)
		q, bad := find.Parse(a.in)
		if bad.Err == api.ErrLong {
			continue
		}
		if bad.Err != api.OK {
			t.Fatalf("Parse(%q): %v", a.in, bad)
		}
		if q.Text() != a.out {
			t.Fatalf("Text of %q: %q, want %q", a.in, q.Text(), a.out)
		}
		want := slices.DeleteFunc(slices.Clone(lines), func(l [2]int) bool { return !a.lines(l) })
		got := collect(f.Lines(q))
		if !slices.Equal(got, want) {
			t.Fatalf("Lines of %q: %v, want %v", a.in, got, want)
		}
		again, bad := find.Parse(q.Text())
		if bad.Err != api.OK || again.Text() != q.Text() || again.Terms() != q.Terms() || !slices.Equal(collect(f.Lines(again)), got) {
			t.Fatalf("%q there and back: %v", a.in, bad)
		}
		no, _ := find.Parse("not (" + a.in + ")")
		rest := collect(f.Lines(no))
		if both := slices.Concat(got, rest); len(both) != len(lines) || slices.ContainsFunc(rest, func(l [2]int) bool { return slices.Contains(got, l) }) {
			t.Fatalf("not (%s): %v", a.in, rest)
		}
		for range f.Lines(q) {
			break
		}
	}
	for range f.All() {
		break
	}
}

// The grammar of the chapter, of tokens by a letter each: T a term, / a distance, & and, | or, ! not.
func question(s string, at int) []int { return row(s, at, both, '|') }

func both(s string, at int) []int {
	ends := part(s, at)
	for k := 0; k < len(ends); k++ {
		next := part(s, ends[k])
		if ends[k] < len(s) && s[ends[k]] == '&' {
			next = append(next, part(s, ends[k]+1)...)
		}
		for _, e := range next {
			if !slices.Contains(ends, e) {
				ends = append(ends, e)
			}
		}
	}
	return ends
}

func row(s string, at int, of func(string, int) []int, sign byte) []int {
	ends := of(s, at)
	for k := 0; k < len(ends); k++ {
		if ends[k] < len(s) && s[ends[k]] == sign {
			for _, e := range of(s, ends[k]+1) {
				if !slices.Contains(ends, e) {
					ends = append(ends, e)
				}
			}
		}
	}
	return ends
}

func part(s string, at int) []int {
	if at >= len(s) {
		return nil
	}
	var ends []int
	switch s[at] {
	case '!':
		return part(s, at+1)
	case '(':
		for _, e := range question(s, at+1) {
			if e < len(s) && s[e] == ')' {
				ends = append(ends, e+1)
			}
		}
	case 'T':
		ends = []int{at + 1}
		if strings.HasPrefix(s[at:], "T/T") {
			ends = append(ends, at+3)
		}
	}
	return ends
}

// P23.5
func TestWrong(t *testing.T) {
	ch := chance(4)
	for range 10000 {
		text, kinds := "", ""
		var at []int
		want := api.Spot{Err: -1}
		terms := 0
		for range ch.less(7) {
			w := ch.of("a", "b~1", `"x y"`, "(", ")", "and", "or", "not", "/1", "/12", "/", "/123", "/a", "~1", "a~", "=", "=a~99", "=a~9999", "a~12", `""`, `" "`, "a~b~1", "*", "=~1")
			if w == "(" || w == ")" || strings.HasPrefix(w, `"`) {
				text += ch.of("", " ")
			} else if text != "" && !strings.HasSuffix(text, "(") && !strings.HasSuffix(text, ")") && !strings.HasSuffix(text, `"`) {
				text += " "
			}
			k := "T"
			switch {
			case w == "(" || w == ")":
				k = w
			case w == "and":
				k = "&"
			case w == "or":
				k = "|"
			case w == "not":
				k = "!"
			case w == "/1" || w == "/12":
				k = "/"
			case w[0] == '/':
				k = "?"
			}
			kinds += k
			at = append(at, len(text))
			if want.Err < 0 {
				if !goes(kinds) || slices.Contains([]string{"~1", "a~", "=", "=a~9999", "a~12", `""`, `" "`, "a~b~1", "=~1"}, w) {
					want = api.Spot{Err: api.ErrQuery, At: len(text)}
				}
			}
			text += w
			terms++
		}
		if want.Err < 0 {
			want = api.Spot{}
			if !slices.Contains(question(kinds, 0), len(kinds)) {
				want = api.Spot{Err: api.ErrQuery, At: len(text)}
			}
		}
		q, bad := find.Parse(text)
		if bad != want || (q == nil) != (bad.Err != api.OK) {
			t.Fatalf("Parse(%q): %v, want %v", text, bad, want)
		}
	}
	spot := func(e api.Errno, at int) api.Spot { return api.Spot{Err: e, At: at} }
	sixty4 := strings.TrimSuffix(strings.Repeat("a ", 64), " ")
	for text, want := range map[string]api.Spot{
		"": spot(230, 0), "  ": spot(230, 2), "a or": spot(230, 4), "(a": spot(230, 2), "a)": spot(230, 1), `"a`: spot(230, 0), "a / 1": spot(230, 2), "a~": spot(230, 0), "~1": spot(230, 0), "=": spot(230, 0), "not": spot(230, 3), "and a": spot(230, 0), "a /1": spot(230, 4), "a /1 /2 b": spot(230, 5), `""`: spot(230, 0), `a "b`: spot(230, 2), `a or "b`: spot(230, 5), `( "b`: spot(230, 2), `a /1 "b`: spot(230, 5), "a /1 not": spot(230, 5), "a /1b": spot(230, 2), "a /1(b)": spot(230, 4), "()": spot(230, 1), "a not": spot(230, 5),
		sixty4: {}, sixty4 + " a": spot(3, 128), sixty4 + " /1 a": spot(3, 131), sixty4 + " a~": spot(230, 128), sixty4 + " (": spot(230, 129),
		strings.Repeat("(", 64) + "a" + strings.Repeat(")", 64): {}, strings.Repeat("(", 65): spot(3, 64), strings.Repeat("not ", 64) + "a": {}, strings.Repeat("not ", 65): spot(3, 256), strings.Repeat("(not ", 32) + "(": spot(3, 160), strings.Repeat("(not ", 32) + "a": spot(230, 161), strings.Repeat("not a ", 30) + "(a)": {}, strings.Repeat("not ", 64) + "(": spot(3, 256), strings.Repeat("(", 64) + `"`: spot(230, 64),
		strings.Repeat(" ", api.MaxText): spot(230, api.MaxText), strings.Repeat(" ", api.MaxText) + "a": spot(3, api.MaxText),
		"a\tb": {}, "a/2": {}, "AND": {}, "a=b": {}, "=*": {}, "\xff~1": {}, `"( ~ = /"`: {}, `a"b"c`: {}, "=a~7": {}, "=a~007": {}, "=a~": spot(230, 0), "a~x": spot(230, 0), "=a~1~1": spot(230, 0),
	} {
		if q, bad := find.Parse(text); bad != want || (q == nil) != (bad.Err != api.OK) {
			t.Errorf("Parse(%.40q): %v, want %v", text, bad, want)
		}
	}
}

func goes(kinds string) bool {
	for _, end := range []string{"", "T"} {
		for n := range 8 {
			if s := kinds + end + strings.Repeat(")", n); slices.Contains(question(s, 0), len(s)) {
				return true
			}
		}
	}
	return false
}

// The examples of the chapter.
func TestExamples(t *testing.T) {
	f := finder(t, concordance(t, "# T\nOh the rose\nthe R\u00f6se!\n", "rose, rose\n"), nil)
	for text, want := range map[string]string{"rose": "00 01 10 ", "not oh": "01 10 ", "oh or the": "00 01 ", `"the rose"`: "00 01 ", "rose /1 rose": "10 ", "oh the": "00 ", "rse~1 and not r?se": "", "*": "00 01 10 ", "th* (rose)": "00 01 "} {
		q, bad := find.Parse(text)
		if bad.Err != api.OK {
			t.Fatal(text, bad)
		}
		got := ""
		for p, l := range f.Lines(q) {
			got += strconv.Itoa(p) + strconv.Itoa(l) + " "
		}
		if got != want {
			t.Errorf("Lines of %q: %s", text, got)
		}
	}
	for text, want := range map[string]string{"a   b or(c)": "a and b or c", "not (a and b)": "not (a and b)", "(a or b) c": "(a or b) and c", `"x  y" /03 z`: `"x y" /3 z`, "(a or b)": "a or b", "(a or b) or c": "a or b or c", "((a b) c)": "a and b and c", "not (not (a))": "not not a", "((a or b)) c": "(a or b) and c", "a /00 b": "a /0 b"} {
		if q, bad := find.Parse(text); bad.Err != api.OK || q.Text() != want {
			t.Errorf("Text of %q: %q", text, q.Text())
		}
	}
	if q, _ := find.Parse(`a /1 "b c" or not d`); q.Terms() != 3 {
		t.Error("Terms", q.Terms())
	}
	if k, n, e := f.Guess("rows"); k != "rose" || n != 2 || e != api.OK {
		t.Error("Guess", k, n, e)
	}
	if _, _, e := f.Guess(strings.Repeat("a", 1025)); e != api.ErrLong {
		t.Error("Guess", e)
	}
	for range f.Within(strings.Repeat("a", 1025), 9) {
		t.Error("Within")
	}
}

// R4
func TestNil(t *testing.T) {
	if f, e := find.New(nil, nil); f != nil || e != api.ErrNil {
		t.Error(e)
	}
	var f *find.Finder
	var q *find.Query
	r, _ := find.Parse("a")
	k, n, e := f.Guess("a")
	if k != "" || n != 0 || e != api.ErrNil || q.Text() != "" || q.Terms() != 0 {
		t.Error("nil ones", e)
	}
	for range f.Within("a", 1) {
		t.Error("Within")
	}
	for range f.Sounds("a", 1) {
		t.Error("Sounds")
	}
	for range f.Match("*") {
		t.Error("Match")
	}
	for range f.All() {
		t.Error("All")
	}
	for range f.Lines(r) {
		t.Error("Lines")
	}
	for range finder(t, concordance(t, "a"), nil).Lines(nil) {
		t.Error("Lines of no question")
	}
}
