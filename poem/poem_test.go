package poem_test

import (
	"regexp"
	"slices"
	"strings"
	"testing"

	"canticle/api"
	"canticle/poem"
	"canticle/runes"
	"canticle/word"
)

type chance uint64

func (c *chance) less(n int) int {
	*c = *c*6364136223846793005 + 1442695040888963407
	return int(uint64(*c)>>33) % n
}

func (c *chance) of(l ...string) string { return l[c.less(len(l))] }

func read(t *testing.T, text string) *poem.Poem {
	t.Helper()
	p, bad := poem.Read(text)
	if bad != (api.Spot{}) || p == nil {
		t.Fatalf("Read(%q): %v", text, bad)
	}
	return p
}

// model is a poem as the chapter says it.
type model struct {
	title  string
	verses []api.Verse
}

var ends = regexp.MustCompile("\r\n|\r|\n")

// modelled takes a text apart.
func modelled(text string) model {
	var m model
	from, stanza, first := 0, -1, true
	ahead := false // a line of verse stands right ahead
	for _, x := range append(ends.FindAllStringIndex(text, -1), []int{len(text), len(text)}) {
		line, at := text[from:x[0]], from
		from = x[1]
		switch {
		case strings.Trim(line, " \t") == "":
			ahead = false
		case first && (line == "#" || strings.HasPrefix(line, "# ")):
			m.title, first = strings.TrimPrefix(strings.TrimPrefix(line, "#"), " "), false
		default:
			first = false
			v := api.Verse{Text: strings.TrimLeft(line, " ")}
			v.Indent = len(line) - len(v.Text)
			v.Span = api.Span{From: at + v.Indent, To: at + len(line)}
			if !ahead {
				stanza++
			} else {
				v.In = m.verses[len(m.verses)-1].In + 1
			}
			v.Stanza, ahead = stanza, true
			m.verses = append(m.verses, v)
		}
	}
	return m
}

// print is the one form.
func (m model) print() string {
	s := ""
	whole := func(v api.Verse) string { return strings.Repeat(" ", v.Indent) + v.Text }
	if m.title != "" || len(m.verses) > 0 && regexp.MustCompile(`^#( |$)`).MatchString(whole(m.verses[0])) {
		s = "# " + m.title + "\n"
	}
	for k, v := range m.verses {
		if (k == 0 || v.Stanza != m.verses[k-1].Stanza) && s != "" {
			s += "\n"
		}
		s += whole(v) + "\n"
	}
	return s
}

// is holds all that a poem tells against a model; the spans are those of the source.
func (m model) is(t *testing.T, p *poem.Poem, source string) {
	t.Helper()
	stanzas := 0
	for _, v := range m.verses {
		stanzas = v.Stanza + 1
	}
	if p.Source() != source || p.Title() != m.title || p.Lines() != len(m.verses) || p.Stanzas() != stanzas || p.Print() != m.print() {
		t.Fatalf("%q: %q, %q, %d, %d, %q", source, p.Source(), p.Title(), p.Lines(), p.Stanzas(), p.Print())
	}
	k := 0
	for n, v := range p.Each() {
		w, e := p.Line(k)
		if n != k || v != m.verses[k] || w != v || e != api.OK {
			t.Fatalf("%q: line %d: %v, want %v", source, n, v, m.verses[k])
		}
		if source[v.Span.From:v.Span.To] != v.Text || !strings.HasSuffix(source[:v.Span.From], strings.Repeat(" ", v.Indent)) || !runes.Boundary(source, v.Span.From) || !runes.Boundary(source, v.Span.To) {
			t.Fatalf("%q: line %d: %v", source, n, v)
		}
		x, e := p.Stanza(v.Stanza)
		if e != api.OK || x.From != k-v.In || x.To <= k || x.To < len(m.verses) && m.verses[x.To].Stanza != v.Stanza+1 {
			t.Fatalf("%q: stanza %d: %v, %v", source, v.Stanza, x, e)
		}
		k++
	}
	if k != len(m.verses) {
		t.Fatalf("%q: %d lines", source, k)
	}
	for _, k := range []int{-1, len(m.verses), 1<<63 - 1, -1 << 63} {
		if v, e := p.Line(k); v != (api.Verse{}) || e != api.ErrRange {
			t.Fatalf("%q: line %d: %v", source, k, e)
		}
	}
	for _, k := range []int{-1, stanzas, 1<<63 - 1, -1 << 63} {
		if x, e := p.Stanza(k); x != (api.Span{}) || e != api.ErrRange {
			t.Fatalf("%q: stanza %d: %v", source, k, e)
		}
	}
}

func (c *chance) text() string {
	s := ""
	for range c.less(9) {
		for range c.less(3) {
			s += c.of(" ", "  ", "\t", "a", "b c", "# ", "#", "\xff", "\u00e9", "don't", "#x", " ")
		}
		s += c.of("\n", "\n", "\n", "\r\n", "\r", "\n\n", "")
	}
	return s
}

// P17.1, P17.3 to P17.6, P17.9 to P17.11
func TestRead(t *testing.T) {
	c := chance(1)
	for range 8000 {
		text := c.text()
		p, m := read(t, text), modelled(text)
		m.is(t, p, text)
		again := read(t, p.Print())
		if !again.Same(p) || !p.Same(again) || again.Print() != p.Print() {
			t.Fatalf("%q there and back: %q", text, p.Print())
		}
		for at := -1; at <= len(text)+1; at++ {
			line, in, e := p.Find(at)
			want := slices.IndexFunc(m.verses, func(v api.Verse) bool { return at >= v.Span.From && at <= v.Span.To })
			switch {
			case at < 0 || at > len(text):
				if e != api.ErrRange || line+in != 0 {
					t.Fatalf("%q: Find(%d): %d, %d, %v", text, at, line, in, e)
				}
			case want < 0:
				if e != api.ErrNone || line+in != 0 {
					t.Fatalf("%q: Find(%d): %d, %d, %v", text, at, line, in, e)
				}
			case e != api.OK || line != want || in != at-m.verses[want].Span.From:
				t.Fatalf("%q: Find(%d): %d, %d, %v", text, at, line, in, e)
			}
		}
		var words []string
		for k, v := range m.verses {
			for x := range word.Words(v.Text) {
				words = append(words, string(rune('0'+k))+v.Text[x.From:x.To])
			}
		}
		var got []string
		for k, w := range p.Words() {
			got = append(got, string(rune('0'+k))+w)
		}
		if !slices.Equal(got, words) {
			t.Fatalf("%q: Words %q", text, got)
		}
		for range p.Words() {
			break
		}
		for range p.Each() {
			break
		}
	}
}

// P17.1
func TestLimits(t *testing.T) {
	line := strings.Repeat("a", api.MaxLine)
	many := strings.Repeat("a\n", api.MaxLines)
	spot := func(e api.Errno, at int) api.Spot { return api.Spot{Err: e, At: at} }
	for k, x := range []struct {
		text string
		want api.Spot
	}{
		{line, api.Spot{}}, {line + "a", spot(api.ErrLong, 1024)}, {"\n" + line + "a", spot(api.ErrLong, 1025)}, {strings.Repeat(" ", 2000), api.Spot{}}, {strings.Repeat(" \t", 1000) + "\n" + line, api.Spot{}}, {strings.Repeat(" ", 1024) + "a", spot(api.ErrLong, 1024)}, {"# " + line[2:], api.Spot{}}, {"# " + line, spot(api.ErrLong, 1024)},
		{many, api.Spot{}}, {many + "\n \n", api.Spot{}}, {many + "\na", spot(api.ErrLong, len(many)+1)}, {"# t\n" + many, api.Spot{}}, {"# t\n" + many + "# t", spot(api.ErrLong, len(many)+4)}, {many + line + "a", spot(api.ErrLong, len(many)+1024)}, {many + line, spot(api.ErrLong, len(many))},
		{strings.Repeat("\n", api.MaxText), api.Spot{}}, {strings.Repeat("\n", api.MaxText+1), spot(api.ErrLong, api.MaxText)}, {line + "a" + strings.Repeat("\n", api.MaxText), spot(api.ErrLong, api.MaxText)},
	} {
		p, bad := poem.Read(x.text)
		if bad != x.want || (p == nil) != (bad.Err != api.OK) {
			t.Errorf("%d: %v, want %v", k, bad, x.want)
		}
	}
}

// P17.2
func TestMake(t *testing.T) {
	c := chance(2)
	for range 5000 {
		title := c.of("", "", "t", "# x", " a ", "\xff", "\u00e9", "#")
		var stanzas [][]string
		var m model
		m.title = title
		for s := range c.less(4) {
			var lines []string
			for k := range 1 + c.less(3) {
				line := c.of("a", "  b ", "# x", "#", " # x", "\tc", "\xff", "#x")
				lines = append(lines, line)
				text := strings.TrimLeft(line, " ")
				m.verses = append(m.verses, api.Verse{Text: text, Indent: len(line) - len(text), Stanza: s, In: k})
			}
			stanzas = append(stanzas, lines)
		}
		p, e := poem.Make(title, stanzas)
		if e != api.OK {
			t.Fatalf("Make(%q, %q): %v", title, stanzas, e)
		}
		source := m.print()
		if want := modelled(source); len(want.verses) != len(m.verses) || want.title != title {
			t.Fatalf("Make(%q, %q): %q", title, stanzas, source)
		}
		modelled(source).is(t, p, source)
		if !read(t, p.Source()).Same(p) {
			t.Fatalf("Make(%q, %q) there and back", title, stanzas)
		}
	}
	long := strings.Repeat("a", api.MaxLine)
	lines := func(n int, line string) []string { return slices.Repeat([]string{line}, n) }
	for k, x := range []struct {
		title   string
		stanzas [][]string
		want    api.Errno
	}{
		{long[2:], nil, api.OK}, {long[1:], nil, api.ErrVerse}, {"a\n", nil, api.ErrVerse}, {"a\rb", nil, api.ErrVerse}, {"", [][]string{{}}, api.ErrVerse}, {"", [][]string{{"a"}, {}}, api.ErrVerse}, {"", [][]string{{""}}, api.ErrVerse}, {"", [][]string{{" \t"}}, api.ErrVerse}, {"", [][]string{{"a\n"}}, api.ErrVerse}, {"", [][]string{{"a\rb"}}, api.ErrVerse}, {"", [][]string{{long}}, api.OK}, {"", [][]string{{long + "a"}}, api.ErrVerse}, {"", [][]string{{" " + long}}, api.ErrVerse},
		{"", [][]string{lines(512, "a")}, api.OK}, {"", [][]string{lines(513, "a")}, api.ErrLong}, {"", [][]string{lines(500, "a"), lines(13, "a")}, api.ErrLong}, {"", [][]string{lines(513, "a"), {""}}, api.ErrVerse},
		{"", [][]string{lines(64, long[1:])}, api.OK}, {"", [][]string{lines(64, long)}, api.ErrLong}, {"", [][]string{lines(32, long[1:]), lines(32, long[1:])}, api.ErrLong}, {"a", [][]string{lines(64, long[1:])}, api.ErrLong}, {"", [][]string{lines(32, long[1:]), lines(31, long[1:]), {long[2:]}}, api.ErrLong}, {"", [][]string{lines(32, long[1:]), append(lines(31, long[1:]), long[2:])}, api.OK}, {"", [][]string{append([]string{"# x"}, lines(63, long[1:])...)}, api.OK}, {"", [][]string{append([]string{"# " + long[3:]}, lines(63, long[1:])...)}, api.ErrLong},
	} {
		p, e := poem.Make(x.title, x.stanzas)
		if e != x.want || (p == nil) != (e != api.OK) {
			t.Errorf("%d: Make: %v, want %v", k, e, x.want)
		}
	}
}

// P17.7, P17.8, P17.12
func TestChanged(t *testing.T) {
	c := chance(3)
	for range 5000 {
		text, other := c.text(), c.text()
		p, q := read(t, text), read(t, other)
		m, n := modelled(text), modelled(other)
		same := m.title == n.title && slices.EqualFunc(m.verses, n.verses, func(v, w api.Verse) bool {
			return v.Text == w.Text && v.Indent == w.Indent && v.Stanza == w.Stanza
		})
		if p.Same(q) != same || !p.Same(p) {
			t.Fatalf("Same of %q, %q", text, other)
		}
		join, e := p.Join(q)
		if e != api.OK {
			t.Fatal(e)
		}
		both := model{title: m.title, verses: slices.Clone(m.verses)}
		for _, v := range n.verses {
			v.Stanza += p.Stanzas()
			both.verses = append(both.verses, v)
		}
		modelled(both.print()).is(t, join, both.print())
		left, _ := join.Join(p)
		right, _ := q.Join(p)
		if right, _ = p.Join(right); !left.Same(right) {
			t.Fatalf("three joined: %q, %q", text, other)
		}
		for from := -1; from <= len(m.verses)+1; from++ {
			for to := -1; to <= len(m.verses)+1; to++ {
				cut, e := p.Cut(from, to)
				if from < 0 || to < from || to > len(m.verses) {
					if cut != nil || e != api.ErrRange {
						t.Fatalf("%q: Cut(%d, %d): %v", text, from, to, e)
					}
					continue
				}
				part := model{m.title, m.verses[from:to]}
				modelled(part.print()).is(t, cut, part.print())
			}
			if from < 0 || from > len(m.verses) {
				continue
			}
			a, _ := p.Cut(0, from)
			b, _ := p.Cut(from, p.Lines())
			again, e := a.Join(b)
			if whole := from == 0 || from == len(m.verses) || m.verses[from].In == 0; e != api.OK || again.Lines() != p.Lines() || whole && !again.Same(p) {
				t.Fatalf("%q cut at %d and joined", text, from)
			}
		}
		for k := range m.verses {
			line := c.of("x", "  y", "# z", "#")
			set, e := p.Set(k, line)
			want := model{m.title, slices.Clone(m.verses)}
			want.verses[k].Text = strings.TrimLeft(line, " ")
			want.verses[k].Indent = len(line) - len(want.verses[k].Text)
			if e != api.OK {
				t.Fatal(e)
			}
			modelled(want.print()).is(t, set, want.print())
			if back, e := set.Set(k, strings.Repeat(" ", m.verses[k].Indent)+m.verses[k].Text); e != api.OK || !back.Same(p) {
				t.Fatalf("%q: Set and back: %v", text, e)
			}
		}
		m.is(t, p, text)
	}
}

// P17.8: what is refused.
func TestRefused(t *testing.T) {
	p := read(t, "# A song\n\none\n  two \n \n\xffthree\nfour\n")
	long := strings.Repeat("a", api.MaxLine)
	for k, x := range []struct {
		k    int
		line string
		want api.Errno
	}{{9, "\n", api.ErrRange}, {-1, "x", api.ErrRange}, {4, "x", api.ErrRange}, {0, " ", api.ErrVerse}, {0, "", api.ErrVerse}, {0, "a\nb", api.ErrVerse}, {0, "a\r", api.ErrVerse}, {0, long, api.OK}, {0, long + "a", api.ErrVerse}} {
		if q, e := p.Set(x.k, x.line); e != x.want || (q == nil) != (e != api.OK) {
			t.Errorf("%d: Set: %v", k, e)
		}
	}
	full, e := poem.Make("", [][]string{slices.Repeat([]string{long[1:]}, 64)})
	if e != api.OK {
		t.Fatal(e)
	}
	if q, e := full.Set(0, long); q != nil || e != api.ErrLong {
		t.Error("Set to too long", e)
	}
	if q, e := full.Set(0, "# "+long[3:]); q != nil || e != api.ErrLong {
		t.Error("Set to a title line", e)
	}
	if q, e := full.Join(p); q != nil || e != api.ErrLong {
		t.Error("Join to too long", e)
	}
	many, _ := poem.Make("", [][]string{slices.Repeat([]string{"a"}, 511)})
	one := read(t, "b")
	if q, e := many.Join(one); e != api.OK || q.Lines() != 512 {
		t.Error("Join to the limit", e)
	} else if q, e := q.Join(one); q != nil || e != api.ErrLong {
		t.Error("Join behind it", e)
	}
	// A source may be shorter than the one form.
	tight := read(t, strings.Repeat(long[1:]+"\n", 63)+"# "+long[3:]+"\n")
	if _, e := tight.Cut(0, 64); e != api.OK {
		t.Error("Cut", e)
	}
	tight = read(t, "#\n"+strings.Repeat("# "+long[3:]+"\n", 63)+long[3:])
	if q, e := tight.Cut(0, 64); q != nil || e != api.ErrLong {
		t.Error("Cut to too long", e)
	}
}

// The examples of the chapter.
func TestExamples(t *testing.T) {
	p := read(t, "# A song\n\none\n  two \n \n\xffthree\nfour\n")
	if p.Title() != "A song" || p.Lines() != 4 || p.Stanzas() != 2 {
		t.Error(p.Title(), p.Lines(), p.Stanzas())
	}
	if v, _ := p.Line(1); v != (api.Verse{Text: "two ", Indent: 2, In: 1, Span: api.Span{From: 16, To: 20}}) {
		t.Error(v)
	}
	if v, _ := p.Line(2); v != (api.Verse{Text: "\xffthree", Stanza: 1, Span: api.Span{From: 23, To: 29}}) {
		t.Error(v)
	}
	if got := p.Print(); got != "# A song\n\none\n  two \n\n\xffthree\nfour\n" {
		t.Errorf("%q", got)
	}
	if q, _ := p.Set(0, "# x"); q.Print() != "# A song\n\n# x\n  two \n\n\xffthree\nfour\n" {
		t.Errorf("%q", q.Print())
	}
	if q, _ := poem.Make("", [][]string{{"# x"}, {"y"}}); q.Print() != "# \n\n# x\n\ny\n" {
		t.Errorf("%q", q.Print())
	}
	if q := read(t, ""); q.Lines()+q.Stanzas() != 0 || q.Title()+q.Print() != "" {
		t.Error("no bytes")
	}
}

// R4
func TestNil(t *testing.T) {
	var p *poem.Poem
	q := read(t, "a")
	_, a := p.Line(0)
	_, b := p.Stanza(0)
	_, _, c := p.Find(-1)
	_, d := p.Set(9, "")
	_, e := p.Cut(9, 0)
	_, f := p.Join(q)
	_, g := q.Join(nil)
	for k, e := range []api.Errno{a, b, c, d, e, f, g} {
		if e != api.ErrNil {
			t.Error(k, e)
		}
	}
	if p.Source()+p.Title()+p.Print() != "" || p.Lines()+p.Stanzas() != 0 || p.Same(q) || q.Same(p) || p.Same(p) {
		t.Error("a nil poem")
	}
	for range p.Each() {
		t.Error("Each")
	}
	for range p.Words() {
		t.Error("Words")
	}
}
