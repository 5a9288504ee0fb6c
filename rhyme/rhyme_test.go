package rhyme_test

import (
	"slices"
	"strings"
	"testing"

	"canticle/api"
	"canticle/phone"
	"canticle/rhyme"
	"canticle/syllable"
)

type chance uint64

func (c *chance) less(n int) int {
	*c = *c*6364136223846793005 + 1442695040888963407
	return int(uint64(*c)>>33) % n
}

func (c *chance) of(l ...string) string { return l[c.less(len(l))] }

// form is a spoken form of a text, in which ' and , are the signs of stress.
func form(text string) api.Said {
	l, s, bad := syllable.Read(strings.NewReplacer("'", "\u02c8", ",", "\u02cc").Replace(text))
	if bad.Err != api.OK {
		panic(text)
	}
	return api.Said{Phones: l, Syllables: s}
}

func forms(texts ...string) []api.Said {
	var l []api.Said
	for _, s := range texts {
		l = append(l, form(s))
	}
	return l
}

func (c *chance) form() (api.Said, string) {
	text := ""
	for k := range 1 + c.less(3) {
		text += c.of("'", ",", ".", ".")
		if k == 0 {
			text = strings.TrimPrefix(text, ".")
		}
		text += c.of("", "t", "k", "st", "t\u02d0") + c.of("a", "i", "a\u02d0", "ai\u032f") + c.of("", "", "t", "k")
	}
	return form(text), text
}

// parts are the head and the tail of a form, and how many syllables stand behind the tail's first one.
func parts(a api.Said) (head, tail []api.Phone, behind int) {
	k := len(a.Syllables) - 1
	for _, stress := range []int{1, 2} {
		for n, s := range a.Syllables {
			if s.Stress == stress {
				k = n
			}
		}
	}
	s := a.Syllables[k]
	return a.Phones[s.From:s.Nucleus], a.Phones[s.Nucleus:], len(a.Syllables) - 1 - k
}

func kind(a, b api.Said) api.Accord {
	h, x, _ := parts(a)
	i, y, _ := parts(b)
	split := func(l []api.Phone) (v, c []api.Phone) {
		for _, p := range l {
			if phone.Sonority(p) == 7 {
				v = append(v, p)
			} else {
				c = append(c, p)
			}
		}
		return v, c
	}
	v, c := split(x)
	w, d := split(y)
	switch same := slices.Equal(x, y); {
	case same && slices.Equal(a.Phones, b.Phones):
		return api.AccordOne
	case same && slices.Equal(h, i):
		return api.AccordRich
	case same:
		return api.AccordFull
	case slices.Equal(v, w):
		return api.AccordAssonance
	case len(c) > 0 && slices.Equal(c, d):
		return api.AccordConsonance
	}
	return api.AccordNone
}

// P15.2 to P15.4, P15.7
func TestPairsOfForms(t *testing.T) {
	c := chance(1)
	last, older := form("a"), form("ta")
	for range 5000 {
		a, text := c.form()
		head, tail, behind := parts(a)
		n, e := rhyme.Start(a)
		x, f := rhyme.Tail(a)
		h, g := rhyme.Head(a)
		key, i := rhyme.Key(a)
		k, j := rhyme.Feminine(a)
		want, _ := phone.Print(tail)
		if e+f+g+i+j != 0 || n != len(a.Phones)-len(tail) || !slices.Equal(x, tail) || !slices.Equal(h, head) || key != want || k != behind {
			t.Fatalf("%q: %d %v %v %q %d", text, n, x, h, key, k)
		}
		if l, bad := phone.Read(key); bad.Err != api.OK || !slices.Equal(l, tail) || phone.Sonority(l[0]) != 7 {
			t.Fatalf("%q: the key %q", text, key)
		}
		if len(h) > 0 {
			h[0].Rune = 'x'
		}
		x[0].Rune = 'y'
		if again, _ := rhyme.Key(a); again != key {
			t.Fatal("lists are shared")
		}
		for _, b := range []api.Said{last, older, a} {
			pair(t, a, b)
		}
		ab, _ := rhyme.Near(a, last)
		bc, _ := rhyme.Near(last, older)
		if ac, _ := rhyme.Near(a, older); ac > ab+bc {
			t.Fatalf("%q: Near by way of a third one", text)
		}
		older, last = last, a
	}
}

func pair(t *testing.T, a, b api.Said) {
	t.Helper()
	h, x, _ := parts(a)
	i, y, _ := parts(b)
	k, e := rhyme.Kind(a, b)
	back, _ := rhyme.Kind(b, a)
	if k != kind(a, b) || k != back || e != api.OK {
		t.Fatalf("Kind(%v, %v): %d, %v", a, b, k, e)
	}
	ok, e := rhyme.Alliterates(a, b)
	if want := len(h) > 0 && len(i) > 0 && h[0] == i[0]; ok != want || e != api.OK {
		t.Fatalf("Alliterates(%v, %v): %v, %v", a, b, ok, e)
	}
	want, _ := phone.Distance(x, y)
	n, e := rhyme.Near(a, b)
	if n != want || e != api.OK || (n == 0) != (k >= api.AccordFull) {
		t.Fatalf("Near(%v, %v): %d, %v", a, b, n, e)
	}
	p, _ := rhyme.Key(a)
	if q, _ := rhyme.Key(b); (p == q) != (k >= api.AccordFull) {
		t.Fatalf("Keys of %v, %v: %q, %q", a, b, p, q)
	}
}

// P15.5, P15.6, P15.8
func TestLists(t *testing.T) {
	c := chance(2)
	for range 1000 {
		var l []api.Said
		for range c.less(9) {
			a, _ := c.form()
			l = append(l, a)
		}
		for _, most := range []int{0, 2, 5, 12, 1 << 40} {
			var pairs []api.Pair
			// Which are joined, by rows of any length.
			joined := make([][]bool, len(l))
			for a := range l {
				joined[a] = make([]bool, len(l))
				for b := range l {
					n, _ := rhyme.Near(l[a], l[b])
					joined[a][b] = n <= most
					if a < b && n <= most {
						pairs = append(pairs, api.Pair{A: a, B: b})
					}
				}
			}
			k := 0
			for p, n := range rhyme.Pairs(l, most) {
				if near, _ := rhyme.Near(l[p.A], l[p.B]); k == len(pairs) || p != pairs[k] || n != near {
					t.Fatalf("Pairs(%v, %d): %v, %d", l, most, p, n)
				}
				k++
			}
			if k != len(pairs) {
				t.Fatalf("Pairs(%v, %d): %d", l, most, k)
			}
			for m := range l {
				for a := range l {
					for b := range l {
						joined[a][b] = joined[a][b] || joined[a][m] && joined[m][b]
					}
				}
			}
			var want []int
			next := 0
			for a := range l {
				if b := slices.Index(joined[a], true); b < a {
					want = append(want, want[b])
				} else {
					want = append(want, next)
					next++
				}
			}
			if got, e := rhyme.Web(l, most); e != api.OK || !slices.Equal(got, want) {
				t.Fatalf("Web(%v, %d): %v, %v, want %v", l, most, got, e, want)
			}
			if got, e := rhyme.Classes(l); most == 0 && (e != api.OK || !slices.Equal(got, want)) {
				t.Fatalf("Classes(%v): %v, %v, want %v", l, got, e, want)
			}
		}
	}
	for range rhyme.Pairs(forms("a", "a", "a"), 0) {
		break
	}
}

// P15.1
func TestErrors(t *testing.T) {
	good, bad := form("'ta"), api.Said{}
	odd := form("'ta")
	odd.Syllables[0].Heavy = true
	for k, x := range [][2]api.Said{{bad, good}, {good, bad}, {odd, good}, {good, odd}} {
		_, a := rhyme.Kind(x[0], x[1])
		ok, b := rhyme.Alliterates(x[0], x[1])
		n, c := rhyme.Near(x[0], x[1])
		l, d := rhyme.Classes(x[:])
		w, e := rhyme.Web(x[:], 5)
		for _, e := range []api.Errno{a, b, c, d, e} {
			if e != api.ErrArg || ok || n != 0 || len(l)+len(w) > 0 {
				t.Errorf("%d: %v", k, e)
			}
		}
		for range rhyme.Pairs(x[:], 99) {
			t.Errorf("%d: Pairs", k)
		}
	}
	for k, x := range []api.Said{bad, odd} {
		_, a := rhyme.Start(x)
		_, b := rhyme.Tail(x)
		_, c := rhyme.Head(x)
		_, d := rhyme.Key(x)
		_, e := rhyme.Feminine(x)
		if a != api.ErrArg || b != api.ErrArg || c != api.ErrArg || d != api.ErrArg || e != api.ErrArg {
			t.Errorf("%d: %v %v %v %v %v", k, a, b, c, d, e)
		}
	}
	many := slices.Repeat([]api.Said{good}, api.MaxLines)
	if l, e := rhyme.Classes(many); e != api.OK || len(l) != api.MaxLines {
		t.Error("Classes at the limit", e)
	}
	if l, e := rhyme.Web(many, 0); e != api.OK || len(l) != api.MaxLines {
		t.Error("Web at the limit", e)
	}
	more := append(many, bad)
	if l, e := rhyme.Classes(more); e != api.ErrLong || len(l) > 0 {
		t.Error("Classes behind it", e)
	}
	if l, e := rhyme.Web(more, -1); e != api.ErrLong || len(l) > 0 {
		t.Error("Web behind it", e)
	}
	if l, e := rhyme.Web(many, -1); e != api.ErrArg || len(l) > 0 {
		t.Error("Web by less than nothing", e)
	}
	for range rhyme.Pairs(more, 1) {
		t.Error("Pairs of too many")
	}
	for range rhyme.Pairs(many, -1) {
		t.Error("Pairs by less than nothing")
	}
}

// The examples of the chapter.
func TestExamples(t *testing.T) {
	for text, want := range map[string]string{"'d\u0254v": "\u0254v", "\u0259'b\u0254v": "\u0254v", "'m\u0254.\u00f0\u0259r": "\u0254\u00f0\u0259r", ",ka'ta.ta": "ata", "'ka'ta": "a", "'ka,ta": "ata", "ka,ta,to": "o"} {
		if got, e := rhyme.Key(form(text)); got != want || e != api.OK {
			t.Errorf("Key(%q): %q, %v", text, got, e)
		}
	}
	for _, x := range []struct {
		a, b string
		want api.Accord
	}{{"'d\u0254v", "\u0259'b\u0254v", api.AccordFull}, {"'lif", "b\u0259'lif", api.AccordRich}, {"'lif", "'lif", api.AccordOne}, {"'kat", "'kap", api.AccordAssonance}, {"'kat", "'kit", api.AccordConsonance}, {"'kat", "'d\u0254v", api.AccordNone}, {"'a", "'i", api.AccordNone}, {"'a.ta", "a'ta", api.AccordNone}, {"'a.ta", "a'ta.ta", api.AccordFull}} {
		if got, _ := rhyme.Kind(form(x.a), form(x.b)); got != x.want {
			t.Errorf("Kind(%q, %q): %d", x.a, x.b, got)
		}
	}
	if n, _ := rhyme.Near(form("'kat"), form("'kap")); n != 4 {
		t.Error("Near", n)
	}
	if l, _ := rhyme.Classes(forms("'kat", "'bat", "'d\u0254v", "'hat")); !slices.Equal(l, []int{0, 0, 1, 0}) {
		t.Error("Classes", l)
	}
	if l, _ := rhyme.Web(forms("'kat", "'kap", "'kak"), 4); !slices.Equal(l, []int{0, 0, 1}) {
		t.Error("Web", l)
	}
	if n, _ := rhyme.Start(form("ka.ta")); n != 3 {
		t.Error("Start", n)
	}
	if ok, _ := rhyme.Alliterates(form("'sti"), form("'sap")); !ok {
		t.Error("Alliterates")
	}
}
