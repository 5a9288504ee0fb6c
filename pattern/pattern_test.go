package pattern_test

import (
	"slices"
	"strconv"
	"strings"
	"testing"

	"canticle/api"
	"canticle/class"
	"canticle/pattern"
	"canticle/runes"
)

// chance tells numbers that look like any.
type chance uint64

func (c *chance) less(n int) int {
	*c = *c*6364136223846793005 + 1442695040888963407
	return int(uint64(*c)>>33) % n
}

func (c *chance) of(l ...string) string { return l[c.less(len(l))] }

// part is an atom as the chapter says it: what it takes, or holds, or a group; and how often.
type part struct {
	take        func(s string, at int) bool
	hold        func(s string, at int) bool
	branches    [][]part
	group       int
	least, most int
}

// form is a part's text as it is handed in, and in the one form; and its size.
type form struct {
	in, out string
	size    int
}

// atom makes an atom by chance.
func (c *chance) atom(deep int, groups *int) (part, form) {
	kinds := map[string]func(r rune) bool{
		"a": func(r rune) bool { return class.Great(r) || class.Small(r) }, "u": class.Great, "l": class.Small, "v": class.Vowel,
		"c": func(r rune) bool { return class.Kind(r) == 1 && !class.Vowel(r) }, "d": func(r rune) bool { return class.Kind(r) == 3 },
		"m": func(r rune) bool { return class.Kind(r) == 2 }, "s": func(r rune) bool { return class.Kind(r) == 5 },
		"e": func(r rune) bool { return class.Kind(r) == 4 }, "p": func(r rune) bool { k := class.Kind(r); return k >= 6 && k <= 8 },
	}
	isKind := func(k string) func(p string) bool {
		return func(p string) bool {
			if k == "x" {
				return !runes.Right(p)
			}
			return runes.Right(p) && kinds[k](runes.To(p)[0])
		}
	}
	at := func(f func(p string) bool) func(s string, at int) bool {
		return func(s string, at int) bool {
			p, e := runes.At(s, at)
			return e == api.OK && f(s[at:at+p.Width])
		}
	}
	wordy := func(p api.Piece, e api.Errno) bool {
		return e == api.OK && slices.Contains([]api.Kind{1, 2, 3}, class.Of(p))
	}
	switch n := c.less(12); {
	case n < 4:
		u := c.of("a", "b", "\u00e9", "\xff", "\xc3", "1", "-")
		in := u
		if c.less(4) == 0 && runes.Right(u) {
			in = "\\:" + strconv.FormatInt(int64(runes.To(u)[0]), 16) + ";"
		}
		return part{take: at(func(p string) bool { return p == u })}, form{in, u, 1}
	case n == 4:
		return part{take: at(func(p string) bool { return p != "\n" && p != "\r" })}, form{".", ".", 1}
	case n == 5:
		k := c.of("a", "u", "l", "v", "c", "d", "m", "s", "e", "p", "x")
		return part{take: at(isKind(k))}, form{"\\" + k, "\\" + k, 1}
	case n == 6:
		not := c.less(2) == 0
		a, k := c.of("a", "b", "\xff", "."), c.of("d", "x", "u")
		text := a + "\\" + k + "a-c"
		if not {
			text = "^" + text
		}
		return part{take: at(func(p string) bool {
			return (p == a || isKind(k)(p) || p >= "a" && p <= "c" && len(p) == 1) != not
		})}, form{"[" + text + "]", "[" + text + "]", 1}
	case n == 7:
		switch c.less(3) {
		case 0:
			return part{hold: func(s string, at int) bool { return at == 0 }}, form{"^", "^", 1}
		case 1:
			return part{hold: func(s string, at int) bool { return at == len(s) }}, form{"$", "$", 1}
		}
		return part{hold: func(s string, at int) bool { return wordy(runes.Before(s, at)) != wordy(runes.At(s, at)) }}, form{"\\b", "\\b", 1}
	case deep == 0:
		return part{take: at(func(p string) bool { return p == "a" })}, form{"a", "a", 1}
	}
	*groups++
	g := *groups
	l, f := c.pattern(deep-1, groups)
	return part{branches: l, group: g}, form{"(" + f.in + ")", "(" + f.out + ")", 1 + f.size}
}

func (c *chance) pattern(deep int, groups *int) ([][]part, form) {
	var l [][]part
	var f form
	for k := range 1 + c.less(3) {
		if k > 0 {
			f.in, f.out = f.in+"|", f.out+"|"
		}
		var b []part
		for range c.less(4) {
			p, x := c.atom(deep, groups)
			p.least, p.most = 1, 1
			times, size := c.of("", "", "*", "+", "?", "{2}", "{0,}", "{1,3}", "{1}", "{0,1}", "{0}", "{1,}", "{2,}", "{0,2}", "{2,2}"), 1
			short := times
			switch times {
			case "*", "{0,}":
				p.least, p.most, short = 0, -1, "*"
			case "+", "{1,}":
				p.most, short, size = -1, "+", 2
			case "?", "{0,1}":
				p.least, short = 0, "?"
			case "{2}", "{2,2}":
				p.least, p.most, short, size = 2, 2, "{2}", 2
			case "{1,3}":
				p.most, size = 3, 3
			case "{0}":
				p.least, p.most, size = 0, 0, 0
			case "{2,}":
				p.least, p.most, size = 2, -1, 3
			case "{0,2}":
				p.least, p.most, size = 0, 2, 2
			case "{1}":
				short = ""
			}
			b = append(b, p)
			f = form{f.in + x.in + times, f.out + x.out + short, f.size + x.size*size}
		}
		l = append(l, b)
	}
	return l, f
}

// The ways, just as the chapter tells them: each is handed on to then, and if that says so, it was the last one.
func tree(l [][]part, s string, at int, took []api.Span, then func(int, []api.Span) bool) bool {
	for _, b := range l {
		if branch(b, s, at, took, then) {
			return true
		}
	}
	return false
}

func branch(b []part, s string, at int, took []api.Span, then func(int, []api.Span) bool) bool {
	if len(b) == 0 {
		return then(at, took)
	}
	return times(b[0], b[0].least, b[0].most, s, at, took, func(q int, took []api.Span) bool { return branch(b[1:], s, q, took, then) })
}

func times(p part, m, n int, s string, at int, took []api.Span, then func(int, []api.Span) bool) bool {
	switch {
	case m == 0 && n == 0:
		return then(at, took)
	case m > 0:
		return atom(p, s, at, took, func(q int, took []api.Span) bool { return times(p, m-1, max(n-1, min(n, -1)), s, q, took, then) })
	}
	if atom(p, s, at, took, func(q int, took []api.Span) bool {
		if n < 0 {
			return q > at && times(p, 0, n, s, q, took, then)
		}
		return times(p, 0, n-1, s, q, took, then)
	}) {
		return true
	}
	return then(at, took)
}

func atom(p part, s string, at int, took []api.Span, then func(int, []api.Span) bool) bool {
	switch {
	case p.take != nil:
		x, _ := runes.At(s, at)
		return p.take(s, at) && then(at+x.Width, took)
	case p.hold != nil:
		return p.hold(s, at) && then(at, took)
	}
	return tree(p.branches, s, at, took, func(q int, took []api.Span) bool {
		took = slices.Clone(took)
		took[p.group-1] = api.Span{From: at, To: q}
		return then(q, took)
	})
}

func none(groups int) []api.Span {
	return slices.Repeat([]api.Span{{From: -1, To: -1}}, groups)
}

// found is what Find is to tell.
func found(l [][]part, groups int, s string, from int) (m api.Match, ok bool) {
	for at := from; at <= len(s) && !ok; at++ {
		if runes.Boundary(s, at) {
			ok = tree(l, s, at, none(groups), func(q int, took []api.Span) bool {
				m = api.Match{Span: api.Span{From: at, To: q}, Groups: took}
				return true
			})
		}
	}
	return m, ok
}

func same(a, b api.Match) bool { return a.Span == b.Span && slices.Equal(a.Groups, b.Groups) }

// P6.1 to P6.5, P6.7, P6.8
func TestFound(t *testing.T) {
	c := chance(1)
	for range 6000 {
		groups := 0
		l, f := c.pattern(2, &groups)
		p, bad := pattern.Compile(f.in)
		if bad != (api.Spot{}) || p == nil {
			t.Fatalf("Compile(%q): %v", f.in, bad)
		}
		if p.Size() != f.size || p.Groups() != groups {
			t.Fatalf("%q: size %d, %d groups; want %d, %d", f.in, p.Size(), p.Groups(), f.size, groups)
		}
		// A broken byte may be kept from what stands behind it.
		if text := p.Text(); strings.ReplaceAll(text, "{1}", "") != f.out {
			t.Fatalf("Text of %q: %q, want %q", f.in, text, f.out)
		}
		again, bad := pattern.Compile(p.Text())
		if bad.Err != api.OK || again.Text() != p.Text() || again.Size() != p.Size() || again.Groups() != groups {
			t.Fatalf("%q there and back: %q", f.in, p.Text())
		}
		for range 3 {
			s := ""
			for range c.less(6) {
				s += c.of("a", "a", "b", "\u00e9", "\xff", "\xc3", "1", " ", "\n", "B")
			}
			if !try(t, f.in, p, l, groups, s) || !try(t, p.Text(), again, l, groups, s) {
				return
			}
		}
	}
}

func try(t *testing.T, text string, p *pattern.Pattern, l [][]part, groups int, s string) bool {
	t.Helper()
	for from := -1; from <= len(s)+1; from++ {
		m, e := p.Find(s, from)
		if from < 0 || from > len(s) {
			if e != api.ErrRange || !same(m, api.Match{}) {
				t.Errorf("%q in %q from %d: %v, %v", text, s, from, m, e)
				return false
			}
			continue
		}
		want, ok := found(l, groups, s, from)
		if ok != (e == api.OK) || !ok && e != api.ErrNone || !same(m, want) {
			t.Errorf("%q in %q from %d: %v, %v, want %v, %v", text, s, from, m, e, want, ok)
			return false
		}
	}
	var want api.Match
	ok := tree(l, s, 0, none(groups), func(q int, took []api.Span) bool {
		if q == len(s) {
			want = api.Match{Span: api.Span{To: q}, Groups: took}
		}
		return q == len(s)
	})
	if m, e := p.Whole(s); ok != (e == api.OK) || !ok && e != api.ErrNone || !same(m, want) {
		t.Errorf("%q, the whole of %q: %v, %v, want %v, %v", text, s, m, e, want, ok)
		return false
	}
	var all []api.Match
	for from := 0; ; {
		m, ok := found(l, groups, s, from)
		if !ok {
			break
		}
		all = append(all, m)
		if from = m.To; m.From == m.To {
			if m.To == len(s) {
				break
			}
			x, _ := runes.At(s, m.To)
			from += x.Width
		}
	}
	if got := slices.Collect(p.All(s)); !slices.EqualFunc(got, all, same) {
		t.Errorf("%q, all in %q: %v, want %v", text, s, got, all)
		return false
	}
	for range p.All(s) {
		break
	}
	if got, e := p.Replace(s, "\\0"); got != s || e != api.OK {
		t.Errorf("%q, %q replaced by what it is: %q, %v", text, s, got, e)
		return false
	}
	return true
}

// Ways in which a part without an end of times takes nothing.
func TestNothingTaken(t *testing.T) {
	for _, x := range []struct {
		text, s string
		want    []int
	}{
		{"(x?(|b))*", "xb", []int{0, 2, 1, 2, 1, 2}},
		{"(a*)*", "b", []int{0, 0, -1, -1}},
		{"(a*)*", "aab", []int{0, 2, 0, 2}},
		{"(a*)+", "b", []int{0, 0, 0, 0}},
		{"(a|b*)*c", "abbc", []int{0, 4, 1, 3}},
		{"(|a)*b", "aab", []int{0, 3, 1, 2}},
		{"((|a)*)*b", "ab", []int{0, 2, 0, 1, 0, 1}},
		{"(|a){3}b", "ab", []int{0, 2, 0, 1}},
		{"(|a){0,3}", "aaa", []int{0, 0, 0, 0}},
	} {
		p, bad := pattern.Compile(x.text)
		if bad.Err != api.OK {
			t.Fatal(x.text, bad)
		}
		m, e := p.Find(x.s, 0)
		got := []int{m.From, m.To}
		for _, g := range m.Groups {
			got = append(got, g.From, g.To)
		}
		if e != api.OK || !slices.Equal(got, x.want) {
			t.Errorf("%q in %q: %v, want %v", x.text, x.s, got, x.want)
		}
	}
}

// The grammar of the chapter: the places up to which something reads from a place on.
type reads func(s []string, at int) []int

func row(l ...reads) reads {
	return func(s []string, at int) []int {
		ends := []int{at}
		for _, f := range l {
			var next []int
			for _, q := range ends {
				next = append(next, f(s, q)...)
			}
			slices.Sort(next)
			ends = slices.Compact(next)
		}
		return ends
	}
}

func either(l ...reads) reads {
	return func(s []string, at int) []int {
		var ends []int
		for _, f := range l {
			ends = append(ends, f(s, at)...)
		}
		slices.Sort(ends)
		return slices.Compact(ends)
	}
}

func often(f reads) reads {
	return func(s []string, at int) []int {
		all := []int{at}
		for i := 0; i < len(all); i++ {
			for _, q := range f(s, all[i]) {
				if !slices.Contains(all, q) {
					all = append(all, q)
				}
			}
		}
		return all
	}
}

func maybe(f reads) reads { return either(row(), f) }

func one(ok func(p string) bool) reads {
	return func(s []string, at int) []int {
		if at < len(s) && ok(s[at]) {
			return []int{at + 1}
		}
		return nil
	}
}

func of(l string) reads {
	return one(func(p string) bool { return len(p) == 1 && strings.Contains(l, p) })
}

func grammar() reads {
	const signs = "()[]{}*+?|.^$\\-"
	plain := one(func(p string) bool { return !strings.Contains(signs, p) })
	sign, kind := of(signs), of("aulvcdmsepx")
	digit := of("0123456789abcdefABCDEF")
	hex := row(digit, maybe(row(digit, maybe(row(digit, maybe(row(digit, maybe(row(digit, maybe(digit))))))))))
	number := either(of("0"), row(of("123456789"), often(of("0123456789"))))
	code := row(of("\\"), of(":"), hex, of(";"))
	single := either(plain, row(of("\\"), sign), code, of(".$*+?(){}|"))
	item := either(row(single, maybe(row(of("-"), single))), row(of("\\"), kind))
	class := row(of("["), maybe(of("^")), item, often(item), of("]"))
	escape := either(row(of("\\"), kind), row(of("\\"), of("b")), row(of("\\"), sign), code)
	times := either(of("*+?"), row(of("{"), number, maybe(row(of(","), maybe(number))), of("}")))
	var pattern reads
	atom := either(func(s []string, at int) []int { return row(of("("), pattern, of(")"))(s, at) }, of(".^$-"), class, escape, plain)
	branch := often(row(atom, maybe(times)))
	pattern = row(branch, often(row(of("|"), branch)))
	return pattern
}

func pieces(s string) []string {
	var l []string
	for p := range runes.Pieces(s) {
		l = append(l, s[p.At:p.At+p.Width])
	}
	return l
}

// goesOn tells whether some pattern's text goes on behind these pieces.
func goesOn(g reads, l []string) bool {
	for _, end := range []string{"", "a", "]", "a]", ";", "1;", ";]", "1;]", "1}", "}", "a-b]", ":1;]"} {
		for n := range 4 {
			all := slices.Concat(l, pieces(end+strings.Repeat(")", n)))
			if slices.Contains(g(all, 0), len(all)) {
				return true
			}
		}
	}
	return false
}

// P6.1: where no pattern's text goes on.
func TestWrong(t *testing.T) {
	g := grammar()
	c := chance(2)
	for range 6000 {
		var l []string
		for range c.less(8) {
			l = append(l, c.of("a", "b", "(", ")", "[", "]", "{", "}", "*", "?", "|", ".", "^", "$", "\\", "\\", "-", ":", ";", "1", "0", ",", "\xff", "\u00e9", "2", "x"))
		}
		want, at := api.Spot{}, 0
		for k := range l {
			if !goesOn(g, l[:k+1]) {
				want = api.Spot{Err: api.ErrPattern, At: at}
				break
			}
			at += len(l[k])
		}
		if want.Err == api.OK && !slices.Contains(g(l, 0), len(l)) {
			want = api.Spot{Err: api.ErrPattern, At: at}
		}
		text := strings.Join(l, "")
		p, bad := pattern.Compile(text)
		if bad != want && !meant(l, bad) || (p == nil) != (bad.Err != api.OK) {
			t.Fatalf("Compile(%q): %v, want %v", text, bad, want)
		}
	}
}

// meant tells whether what is wrong is so by the number that is said, which the grammar doesn't ask: a range or a count that falls, or a class with a broken byte at a range's side.
func meant(l []string, bad api.Spot) bool {
	s := strings.Join(l, "")
	if bad.Err != api.ErrPattern || bad.At == 0 || bad.At >= len(s) {
		return false
	}
	return s[bad.At-1] == '-' || s[bad.At-1] == ','
}

// P6.1: each error, where the chapter says.
func TestErrors(t *testing.T) {
	long := strings.Repeat("a", api.MaxPattern)
	spot := func(e api.Errno, at int) api.Spot { return api.Spot{Err: e, At: at} }
	for text, want := range map[string]api.Spot{
		"(": spot(60, 1), "a)": spot(60, 1), "[]": spot(60, 1), "a**": spot(60, 2), "\\q": spot(60, 1), "[b-a]": spot(60, 3), "a{2,1}": spot(60, 4), "\\:D800;": spot(61, 0), "a{256}": spot(3, 2),
		"a{1}[.\\]^]?(b){0,}\\:2A;": spot(60, 8),
		long:                        {}, long + "a": spot(3, api.MaxPattern), long + "(": spot(3, api.MaxPattern),
		"a{2,256}": spot(3, 4), "a{1,999": spot(3, 4), "a{01}": spot(60, 3), "a{00": spot(60, 3), "a{1,01}": spot(60, 5), "a{2,1": spot(60, 5), "a{2,1a": spot(60, 5), "a{}": spot(60, 2), "a{,2}": spot(60, 2), "a{0}": {}, "a{255}": {}, "{1}": spot(60, 0), "*": spot(60, 0), "|*": spot(60, 1), "(*)": spot(60, 1), "a{1}{1}": spot(60, 4), "": {}, "|": {}, "()": {}, "(|)*": {},
		"\\": spot(60, 1), "\\\xff": spot(60, 1), "\\:;": spot(60, 2), "\\:1": spot(60, 3), "\\:1234567;": spot(60, 8), "\\:110000;": spot(61, 0), "\\:10FFFF;": {}, "a\\:DFFF;)": spot(61, 1), "\\:d7ff;": {},
		"[a": spot(60, 2), "[^]": spot(60, 2), "[^^]": spot(60, 2), "[a-]": spot(60, 3), "[-a]": spot(60, 1), "[a-b-c]": spot(60, 4), "[\\a-z]": spot(60, 3), "[a-\\d]": spot(60, 4), "[\\b]": spot(60, 2), "[a-\xff]": spot(60, 3), "[\xff-a]": spot(60, 3), "[\xfe-\xff]": spot(60, 3), "[a-\\:60;]": spot(60, 3), "[a-\\:d800;]": spot(61, 3), "[a-\\:62;]": {}, "[a-a]": {}, "[[]": spot(60, 1), "[.$*+?(){}|]": {}, "[\\-]": {},
		strings.Repeat("(", 31) + strings.Repeat(")", 31): {},
		strings.Repeat("(", 32):                           spot(3, 31), strings.Repeat("()", 32): spot(3, 62),
		"a{255}a{255}a{255}a{255}a{255}a{255}a{255}a{255}a{8}": {},
		"a{255}a{255}a{255}a{255}a{255}a{255}a{255}a{255}a{9}": spot(3, 49),
		"(a{255}a{255}a{255}a{255}){2}aaaaaa":                  {},
		"(a{255}a{255}a{255}a{255}){2}aaaaaaa":                 spot(3, 35),
		"(a{255}a{255}a{255}a{255}){2}aaaaa[ab]x":              spot(3, 38),
		"(a{255}a{255}a{255}a{255}){2}aaaaaa[ab]x":             spot(3, 35),
		"(a{255}a{255}a{255}a{255}){2}aaaaaa(":                 spot(3, 35),
		"(a{255}a{255}a{255}a{255}){3}":                        spot(3, 26),
		"(a{255}a{255}a{255}a{255}){0}a{255}":                  {},
		"(a{255}a{255}a{255}a{255})+":                          {},
		"(a{255}a{255}a{255}a{255})+(a{5})+":                   spot(3, 33),
		"(a{255}a{255}a{255}a{255}){1,}aaaaa+":                 {},
		"(a{255}a{255}a{255}a{255}){1,}aaaaaa+":                spot(3, 36),
	} {
		if p, bad := pattern.Compile(text); bad != want || (p == nil) != (bad.Err != api.OK) {
			t.Errorf("Compile(%q): %v, want %v", text, bad, want)
		}
	}
}

// P6.2
func TestText(t *testing.T) {
	for text, want := range map[string]string{
		"a{1}[.\\]]?(b){0,}\\:2A;":                           "a[.\\]]?(b)*\\*",
		"\xe2{1}\x82{1}\xac":                                 "\xe2{1}\x82\xac",
		"\xe2{1,1}\x82":                                      "\xe2\x82",
		"\xf0{1}\x9f{1}\x98{1}\x80*":                         "\xf0{1}\x9f\x98\x80*",
		"\xc3{1}(\xa9)":                                      "\xc3(\xa9)",
		"\xc3{2}\xa9":                                        "\xc3{2}\xa9",
		"\\-\\.\\:41;\\\\\\:5c;":                             "-\\.A\\\\\\\\",
		"[\\-\\.\\:5d;\\^\\[A-\\:5d;\\d\\x\\\\\\|a-a]":       "[\\-.\\]\\^\\[A-\\]\\d\\x\\\\|a-a]",
		"a{0,0}b{3,3}c{1,}d{0,1}e{2,}f{2,4}g{1,1}h{1,2}i{0}": "a{0}b{3}c+d?e{2,}f{2,4}gh{1,2}i{0}",
		"^|$|(|\\b)[^a]":                                     "^|$|(|\\b)[^a]",
	} {
		p, bad := pattern.Compile(text)
		if bad.Err != api.OK || p.Text() != want {
			t.Errorf("Text of %q: %q, %v", text, p.Text(), bad)
		}
	}
}

// P6.6
func TestReplace(t *testing.T) {
	p, _ := pattern.Compile("(\\a)(\\d)|(-)")
	for with, want := range map[string]string{"\\2\\1": "1a2b -", "<\\3>": "<><> <->", "\\\\\\9": "\\\\ \\", "": " ", "\\0\\0": "a1a1b2b2 --"} {
		s := "a1b2 -"
		if with == "\\2\\1" {
			s, want = "a1b2", "1a2b"
		}
		if got, e := p.Replace(s, with); got != want || e != api.OK {
			t.Errorf("Replace with %q: %q, %v, want %q", with, got, e, want)
		}
	}
	for _, with := range []string{"\\q", "a\\", "\\\\\\", "\\\xff"} {
		if got, e := p.Replace("zz", with); got != "" || e != api.ErrArg {
			t.Errorf("Replace with %q: %q, %v", with, got, e)
		}
	}
	long := strings.Repeat("a", api.MaxText)
	if _, e := p.Replace(long+"a", ""); e != api.ErrLong {
		t.Error("Replace in a long text", e)
	}
	if _, e := p.Replace("", "\\"+long); e != api.ErrLong {
		t.Error("Replace with a long text", e)
	}
	a, _ := pattern.Compile("a")
	if got, e := a.Replace(long, "b"); got != strings.Repeat("b", api.MaxText) || e != api.OK {
		t.Error("Replace at the limit", e)
	}
	if got, e := a.Replace(long, "bb"); got != "" || e != api.ErrLong {
		t.Error("Replace comes to more", e)
	}
	if got, e := a.Replace("ab", long); got != "" || e != api.ErrLong {
		t.Error("Replace comes to one more", e)
	}
	if got, e := a.Replace("a", long); got != long || e != api.OK {
		t.Error("Replace comes to the limit", e)
	}
}

// R4, and texts that are too long.
func TestNil(t *testing.T) {
	var p *pattern.Pattern
	_, a := p.Find("a", 9)
	_, b := p.Whole("a")
	_, c := p.Replace("a", "\\")
	if a != api.ErrNil || b != api.ErrNil || c != api.ErrNil || p.Text() != "" || p.Size() != 0 || p.Groups() != 0 || len(slices.Collect(p.All("a"))) != 0 {
		t.Error("a nil pattern", a, b, c)
	}
	long := strings.Repeat("a", api.MaxText+1)
	p, _ = pattern.Compile("a")
	_, a = p.Find(long, -1)
	_, b = p.Whole(long)
	if a != api.ErrLong || b != api.ErrLong || len(slices.Collect(p.All(long))) != 0 {
		t.Error("a long text", a, b)
	}
	if _, e := p.Find("a", -1<<63); e != api.ErrRange {
		t.Error(e)
	}
	if _, e := p.Find("a", 1<<63-1); e != api.ErrRange {
		t.Error(e)
	}
}

// P6.10
func TestInTime(t *testing.T) {
	long := strings.Repeat("a", api.MaxText)
	for _, text := range []string{"(a*)*b", "(a|aa)*b", "((((a*)*)*)*)*b", "a*a*a*a*b", "(a?){9}a{9}b", "a*b|a", "(\\a|.)*\\d", "(a{1,30}){5,}b"} {
		p, bad := pattern.Compile(text)
		if bad.Err != api.OK {
			t.Fatal(text, bad)
		}
		n := 0
		for range p.All(long) {
			n++
		}
		if want := map[string]int{"a*b|a": api.MaxText}[text]; n != want {
			t.Errorf("%q: %d", text, n)
		}
	}
	p, _ := pattern.Compile("(a?){255}(a?){255}(a?){255}\\a{255}")
	if m, e := p.Find(long, 0); e != api.OK || m.To != 1020 {
		t.Error(m, e)
	}
	if m, e := p.Find(long[:300], 0); e != api.OK || m.To != 300 {
		t.Error(m, e)
	}
}

// The examples of the chapter.
func TestExamples(t *testing.T) {
	for _, x := range []struct {
		text, s string
		from    int
		want    []int
	}{
		{"a|ab", "ab", 0, []int{0, 1}},
		{"(a|ab)(c|bcd)?", "abcd", 0, []int{0, 4, 0, 1, 1, 4}},
		{"a*", "baa", 0, []int{0, 0}},
		{"a*", "baa", 1, []int{1, 3}},
		{"(a|b){2}", "abb", 0, []int{0, 2, 1, 2}},
		{"\\v+", "str\u0153\u00e9!", 0, []int{3, 7}},
		{"[^\\x].", "a\xffb\u0301", 0, []int{0, 2}},
		{"\\x", "a\xe9b", 0, []int{1, 2}},
		{"\\:301;", "e\u0301", 0, []int{1, 3}},
		{"\\b\\a", "1a-b", 0, []int{3, 4}},
		{"^$", "", 0, []int{0, 0}},
		{"\\b\\a", "ab", 1, nil},
		{"^$", "a", 0, nil},
	} {
		p, bad := pattern.Compile(x.text)
		if bad.Err != api.OK {
			t.Fatal(x.text, bad)
		}
		m, e := p.Find(x.s, x.from)
		if x.want == nil {
			if e != api.ErrNone {
				t.Errorf("%q in %q: %v, %v", x.text, x.s, m, e)
			}
			continue
		}
		got := []int{m.From, m.To}
		for _, g := range m.Groups {
			got = append(got, g.From, g.To)
		}
		if e != api.OK || !slices.Equal(got, x.want) {
			t.Errorf("%q in %q: %v, want %v", x.text, x.s, got, x.want)
		}
	}
}
