package concord_test

import (
	"maps"
	"slices"
	"strings"
	"testing"

	"canticle/api"
	"canticle/class"
	"canticle/concord"
	"canticle/fold"
	"canticle/poem"
	"canticle/runes"
	"canticle/word"
)

type chance uint64

func (c *chance) less(n int) int {
	*c = *c*6364136223846793005 + 1442695040888963407
	return int(uint64(*c)>>33) % n
}

func (c *chance) of(l ...string) string { return l[c.less(len(l))] }

func verse(t *testing.T, text string) *poem.Poem {
	t.Helper()
	p, bad := poem.Read(text)
	if bad.Err != api.OK {
		t.Fatalf("%q: %v", text, bad)
	}
	return p
}

func concordance(t *testing.T, poems ...*poem.Poem) *concord.Concord {
	t.Helper()
	c, e := concord.New(poems...)
	if e != api.OK || c == nil {
		t.Fatal(e)
	}
	return c
}

func (c *chance) poem(t *testing.T) *poem.Poem {
	text := c.of("", "", "# the title\n\n", "#\n")
	for range c.less(5) {
		text += c.of("", "", "  ")
		for k := range c.less(6) {
			if k > 0 {
				text += c.of(" ", ", ", "\xff", " - ")
			}
			text += c.of("the", "The", "rose", "R\u00f6se", "ros", "oh", "\u03b1\u03b2", "\u03b2", "don't", "o")
		}
		text += c.of("\n", "\r\n", "!\n", "\n\n")
	}
	return verse(t, text)
}

// hit is a place, with its key and its line's text.
type hit struct {
	api.Hit
	key, text string
	in        int
}

// hits are all places, in order.
func hits(poems []*poem.Poem) []hit {
	var l []hit
	for n, p := range poems {
		number := 0
		for k, v := range p.Each() {
			in := 0
			for w := range word.Words(v.Text) {
				l = append(l, hit{api.Hit{Poem: n, Line: k, Word: in, Number: number, Span: api.Span{From: v.Span.From + w.From, To: v.Span.From + w.To}}, fold.Fold(v.Text[w.From:w.To]), v.Text, w.From})
				in++
				number++
			}
		}
	}
	return l
}

// P21.1 to P21.10
func TestAll(t *testing.T) {
	ch := chance(1)
	for range 600 {
		var poems []*poem.Poem
		for range ch.less(4) {
			poems = append(poems, ch.poem(t))
		}
		c := concordance(t, poems...)
		all := hits(poems)
		by := map[string][]api.Hit{}
		for _, h := range all {
			by[h.key] = append(by[h.key], h.Hit)
		}
		a, b := c.Size()
		if c.Poems() != len(poems) || a != len(all) || b != len(by) {
			t.Fatal(c.Poems(), a, b)
		}
		var keys []string
		for key, n := range c.Words() {
			if n != len(by[key]) {
				t.Fatalf("Words: %q %d", key, n)
			}
			keys = append(keys, key)
		}
		if !slices.Equal(keys, slices.Sorted(maps.Keys(by))) {
			t.Fatalf("Words: %q", keys)
		}
		for _, w := range []string{"the", "THE", "ro\u0308se", "rose", "\u03b1", "x", "", "the rose", "DON'T", "\xff"} {
			for _, w := range []string{w, class.UpperText(w), fold.Apart(w)} {
				if got := c.Places(w); !slices.Equal(got, by[fold.Fold(w)]) || c.Count(w) != len(got) {
					t.Fatalf("Places(%q): %v", w, got)
				}
			}
		}
		for k, h := range all {
			places(t, &ch, c, poems, all, k, h)
		}
		for n, p := range poems {
			for at := range len(p.Source()) + 1 {
				k := slices.IndexFunc(all, func(h hit) bool { return h.Poem == n && at >= h.Span.From && at < h.Span.To })
				h, e := c.At(n, at)
				if k < 0 && (e != api.ErrNone || h != api.Hit{}) || k >= 0 && (e != api.OK || h != all[k].Hit) {
					t.Fatalf("At(%d, %d): %v, %v", n, at, h, e)
				}
			}
			for _, at := range []int{-1, len(p.Source()) + 1, 1<<63 - 1, -1 << 63} {
				if h, e := c.At(n, at); e != api.ErrRange || h != (api.Hit{}) {
					t.Fatalf("At(%d, %d): %v", n, at, e)
				}
			}
		}
		for _, n := range []int{-1, len(poems), 1 << 62} {
			if h, e := c.At(n, 0); e != api.ErrArg || h != (api.Hit{}) {
				t.Fatalf("At(%d, 0): %v", n, e)
			}
		}
		asked(t, &ch, c, all, keys)
	}
}

// places asks for what stands at a place and around it.
func places(t *testing.T, ch *chance, c *concord.Concord, poems []*poem.Poem, all []hit, k int, h hit) {
	t.Helper()
	text, e := c.Text(h.Hit)
	if e != api.OK || text != poems[h.Poem].Source()[h.Span.From:h.Span.To] || fold.Fold(text) != h.key {
		t.Fatalf("Text(%v): %q, %v", h, text, e)
	}
	ahead, behind := h.text[:h.in], h.text[h.in+len(text):]
	for _, n := range []int{0, 1, 2, 5, 99, 1<<63 - 1} {
		a, b, e := c.Around(h.Hit, n)
		all, _ := runes.Count(ahead)
		_, x := runes.Cut(ahead, max(all-n, 0))
		y, _ := runes.Cut(behind, n)
		if e != api.OK || a != x || b != y || n > 50 && a+text+b != h.text {
			t.Fatalf("Around(%v, %d): %q, %q, %v", h, n, a, b, e)
		}
	}
	for _, n := range []int{-1, -1 << 63} {
		if a, b, e := c.Around(h.Hit, n); a+b != "" || e != api.ErrArg {
			t.Fatalf("Around(%v, %d): %v", h, n, e)
		}
	}
	wrong := h.Hit
	to := []*int{&wrong.Poem, &wrong.Line, &wrong.Word, &wrong.Number, &wrong.Span.From, &wrong.Span.To}[ch.less(6)]
	*to += []int{1, -1, 1 << 40, -1 << 63}[ch.less(4)]
	if slices.ContainsFunc(all, func(g hit) bool { return g.Hit == wrong }) {
		return
	}
	if a, e := c.Text(wrong); a != "" || e != api.ErrArg {
		t.Fatalf("Text(%v): %q, %v", wrong, a, e)
	}
	if a, b, e := c.Around(wrong, 3); a+b != "" || e != api.ErrArg {
		t.Fatalf("Around(%v): %v", wrong, e)
	}
}

// asked asks for words together.
func asked(t *testing.T, ch *chance, c *concord.Concord, all []hit, keys []string) {
	t.Helper()
	w := func() string { return ch.of("the", "ROSE", "oh", "ros", "don't", "o", "x") }
	for range 6 {
		var words []string
		for range ch.less(4) {
			words = append(words, w())
		}
		var phrase []api.Hit
		var lines [][2]int
		for k, h := range all {
			is := len(words) > 0 && k+len(words) <= len(all)
			for n := range words {
				is = is && all[k+n].key == fold.Fold(words[n]) && all[k+n].Poem == h.Poem && all[k+n].Line == h.Line
			}
			if is {
				phrase = append(phrase, h.Hit)
			}
			has := len(words) > 0
			for _, x := range words {
				has = has && slices.ContainsFunc(all, func(g hit) bool { return g.Poem == h.Poem && g.Line == h.Line && g.key == fold.Fold(x) })
			}
			if x := [2]int{h.Poem, h.Line}; has && !slices.Contains(lines, x) {
				lines = append(lines, x)
			}
		}
		if got := slices.Collect(c.Phrase(words...)); !slices.Equal(got, phrase) {
			t.Fatalf("Phrase(%q): %v, want %v", words, got, phrase)
		}
		var got [][2]int
		for p, l := range c.Lines(words...) {
			got = append(got, [2]int{p, l})
		}
		if !slices.Equal(got, lines) {
			t.Fatalf("Lines(%q): %v, want %v", words, got, lines)
		}
		a, b := w(), w()
		for _, most := range []int{-1, 0, 1, 2, 5, 1<<63 - 1} {
			var want, pairs [][2]api.Hit
			for i, g := range all {
				for j, h := range all {
					if i != j && g.key == fold.Fold(a) && h.key == fold.Fold(b) && g.Poem == h.Poem && max(g.Number-h.Number, h.Number-g.Number) <= most {
						want = append(want, [2]api.Hit{g.Hit, h.Hit})
					}
				}
			}
			for g, h := range c.Near(a, b, most) {
				pairs = append(pairs, [2]api.Hit{g, h})
			}
			if !slices.Equal(pairs, want) {
				t.Fatalf("Near(%q, %q, %d): %v, want %v", a, b, most, pairs, want)
			}
		}
	}
	for _, with := range []string{"", "R", "ros", "\u00d6", "e", "se", "\xb2", "\xce", "\u03b2", "'t", "x"} {
		f := fold.Fold(with)
		begins := slices.DeleteFunc(slices.Clone(keys), func(k string) bool { return !strings.HasPrefix(k, f) })
		ends := slices.DeleteFunc(slices.Clone(keys), func(k string) bool {
			return !strings.HasSuffix(k, f) || !runes.Boundary(k, len(k)-len(f))
		})
		if got := slices.Collect(c.Begins(with)); !slices.Equal(got, begins) {
			t.Fatalf("Begins(%q): %q", with, got)
		}
		if got := slices.Collect(c.Ends(with)); !slices.Equal(got, ends) {
			t.Fatalf("Ends(%q): %q", with, got)
		}
	}
	once := slices.DeleteFunc(slices.Clone(keys), func(k string) bool { return c.Count(k) != 1 })
	if got := slices.Collect(c.Once()); !slices.Equal(got, once) {
		t.Fatalf("Once: %q", got)
	}
}

// P21.6, P21.9
func TestJoin(t *testing.T) {
	ch := chance(2)
	for range 200 {
		p, q, r := ch.poem(t), ch.poem(t), ch.poem(t)
		a, b, c := concordance(t, p), concordance(t, q, p), concordance(t, r)
		ab, e := a.Join(b)
		if e != api.OK || ab.Poems() != 3 {
			t.Fatal(e)
		}
		left, _ := ab.Join(c)
		bc, _ := b.Join(c)
		right, _ := a.Join(bc)
		want := concordance(t, p, q, p, r)
		for key, n := range want.Words() {
			if left.Count(key) != n || !slices.Equal(left.Places(key), want.Places(key)) || !slices.Equal(right.Places(key), want.Places(key)) || ab.Count(key) != a.Count(key)+b.Count(key) {
				t.Fatalf("joined: %q", key)
			}
		}
	}
}

// P21.1, P21.6: limits.
func TestLimits(t *testing.T) {
	one := verse(t, "a")
	poems := slices.Repeat([]*poem.Poem{one}, api.MaxPoems)
	full := concordance(t, poems...)
	if c, e := concord.New(append(poems, one)...); c != nil || e != api.ErrLong {
		t.Error("a poem more", e)
	}
	if c, e := concord.New(append(poems, one, nil)...); c != nil || e != api.ErrNil {
		t.Error("no poem", e)
	}
	if c, e := full.Join(concordance(t, one)); c != nil || e != api.ErrLong {
		t.Error("a poem more joined", e)
	}
	if c, e := full.Join(concordance(t)); c == nil || e != api.OK {
		t.Error("none joined", e)
	}
	many := verse(t, strings.Repeat(strings.Repeat("a ", 512)+"\n", 32))
	two := concordance(t, many, many)
	if n, k := two.Size(); n != api.MaxHits || k != 1 {
		t.Error(n, k)
	}
	if c, e := concord.New(many, many, one); c != nil || e != api.ErrLong {
		t.Error("a word more", e)
	}
	if c, e := two.Join(concordance(t, one)); c != nil || e != api.ErrLong {
		t.Error("a word more joined", e)
	}
	n := 0
	for range two.Near("a", "a", 3) {
		n++
	}
	if n != 2*(6*(api.MaxHits/2)-12) {
		t.Error("Near", n)
	}
}

// The examples of the chapter.
func TestExamples(t *testing.T) {
	c := concordance(t, verse(t, "# T\nOh the rose\nthe R\u00f6se!\n"), verse(t, "rose, rose\n"))
	hit := func(l ...int) api.Hit {
		return api.Hit{Poem: l[0], Line: l[1], Word: l[2], Number: l[3], Span: api.Span{From: l[4], To: l[5]}}
	}
	if got := c.Places("ROSE"); !slices.Equal(got, []api.Hit{hit(0, 0, 2, 2, 11, 15), hit(0, 1, 1, 4, 20, 25), hit(1, 0, 0, 0, 0, 4), hit(1, 0, 1, 1, 6, 10)}) {
		t.Error(got)
	}
	if a, b, _ := c.Around(c.Places("rose")[1], 2); a != "e " || b != "!" {
		t.Error(a, b)
	}
	for _, seq := range []func(func(string) bool){c.Begins(""), c.Ends(""), c.Once()} {
		for range seq {
			break
		}
	}
	for range c.Words() {
		break
	}
	for range c.Phrase("rose") {
		break
	}
	for range c.Near("rose", "the", 9) {
		break
	}
	for range c.Lines("rose") {
		break
	}
	l := c.Places("rose")
	l[0] = api.Hit{}
	if c.Places("rose")[0] == l[0] {
		t.Error("lists are shared")
	}
}

// R4
func TestNil(t *testing.T) {
	var c *concord.Concord
	d := concordance(t)
	_, a := c.At(-1, -1)
	_, b := c.Text(api.Hit{})
	_, _, e := c.Around(api.Hit{}, -1)
	_, f := c.Join(d)
	_, g := d.Join(nil)
	x, y := c.Size()
	if a != api.ErrNil || b != api.ErrNil || e != api.ErrNil || f != api.ErrNil || g != api.ErrNil || x+y+c.Poems()+c.Count("a") != 0 || len(c.Places("a")) > 0 {
		t.Error("a nil concordance")
	}
	for range c.Words() {
		t.Error("Words")
	}
	for _, seq := range []func(func(string) bool){c.Begins(""), c.Ends(""), c.Once()} {
		for range seq {
			t.Error("keys")
		}
	}
	for range c.Phrase("a") {
		t.Error("Phrase")
	}
	for range c.Near("a", "a", 1) {
		t.Error("Near")
	}
	for range c.Lines("a") {
		t.Error("Lines")
	}
}
