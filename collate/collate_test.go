package collate_test

import (
	"bytes"
	"cmp"
	"math/big"
	"slices"
	"strings"
	"testing"

	"canticle/api"
	"canticle/class"
	"canticle/collate"
	"canticle/fold"
	"canticle/runes"
)

type chance uint64

func (c *chance) less(n int) int {
	*c = *c*6364136223846793005 + 1442695040888963407
	return int(uint64(*c)>>33) % n
}

func (c *chance) of(l ...string) string { return l[c.less(len(l))] }

func read(t *testing.T, text string) *collate.Order {
	t.Helper()
	o, bad := collate.Read(text)
	if bad != (api.Spot{}) || o == nil {
		t.Fatalf("Read(%q): %v", text, bad)
	}
	return o
}

// piece is a piece of a text.
type piece struct {
	text string
	kind api.Kind
}

func pieces(s string) []piece {
	var l []piece
	for p := range runes.Pieces(s) {
		l = append(l, piece{s[p.At : p.At+p.Width], class.Of(p)})
	}
	return l
}

func small(s string) string {
	out := ""
	for _, p := range pieces(fold.Apart(s)) {
		if p.kind == api.KindLetter {
			p.text = string(class.Lower(runes.To(p.text)[0]))
		}
		out += p.text
	}
	return out
}

// model is an order as its lines say it.
type model struct {
	placed []string
	stands map[string][]string
	skips  map[string]bool
}

func modelled(text string) model {
	m := model{stands: map[string][]string{}, skips: map[string]bool{}}
	for r := rune('a'); r < 0x500; r++ {
		if s := string(r); class.Small(r) && fold.Apart(s) == s && fold.Fold(s) == s {
			m.placed = append(m.placed, s)
		}
	}
	for _, line := range strings.Split(text, "\n") {
		switch w := strings.Fields(line); {
		case len(w) == 0:
		case w[0] == "skip":
			m.skips[fold.Fold(w[1])] = true
		case w[0] == "put":
			m.placed = slices.Insert(m.placed, slices.Index(m.placed, small(w[3]))+1, small(w[1]))
		default:
			var l []string
			for _, v := range w[2:] {
				l = append(l, small(v))
			}
			m.stands[small(w[1])] = l
		}
	}
	return m
}

// element is an element of a title: its rank, and what tells it from others of that rank.
type element struct {
	rank  int
	size  *big.Int
	marks string
	great int
}

func whole(n int) *big.Int { return big.NewInt(int64(n)) }

// elements goes by the chapter's six cases.
func (m model) elements(title string) []element {
	l := pieces(fold.Apart(title))
	from := slices.IndexFunc(l, func(p piece) bool { return p.kind == api.KindLetter })
	if from >= 0 {
		to, row := from, ""
		for to < len(l) && (l[to].kind == api.KindLetter || l[to].kind == api.KindMark) {
			row += l[to].text
			to++
		}
		if m.skips[fold.Fold(row)] && slices.ContainsFunc(l[to:], func(p piece) bool { return p.kind == api.KindLetter || p.kind == api.KindDigit }) {
			l = l[to:]
		}
	}
	var out []element
	for at := 0; at < len(l); {
		switch l[at].kind {
		case api.KindDigit:
			row := ""
			for ; at < len(l) && l[at].kind == api.KindDigit; at++ {
				row += l[at].text
			}
			n, _ := new(big.Int).SetString(row, 10)
			out = append(out, element{rank: 2, size: n})
		case api.KindBlank, api.KindBreak, api.KindDash:
			at++
			if len(out) > 0 && out[len(out)-1].rank != 1 {
				out = append(out, element{rank: 1, size: whole(0)})
			}
		case api.KindBroken:
			out = append(out, element{rank: 4, size: whole(int(l[at].text[0]))})
			at++
		case api.KindLetter:
			var best []string
			n := 0
			for k := 1; k <= 8 && at+k <= len(l); k++ {
				row, right := "", true
				for _, p := range l[at : at+k] {
					row += small(p.text)
					right = right && (p.kind == api.KindLetter || p.kind == api.KindMark)
				}
				if !right {
					break
				}
				if slices.Contains(m.placed, row) {
					best, n = []string{row}, k
				} else if s, ok := m.stands[row]; ok {
					best, n = s, k
				}
			}
			if n == 0 {
				n = 1
				for _, r := range fold.Fold(l[at].text) {
					best = append(best, string(r))
				}
			}
			great := 0
			for _, p := range l[at : at+n] {
				if p.kind == api.KindLetter && class.Great(runes.To(p.text)[0]) {
					great = 1
				}
			}
			for _, u := range best {
				out = append(out, element{rank: 3, size: whole(slices.Index(m.placed, u)), great: great})
			}
			for at += n; at < len(l) && l[at].kind == api.KindMark; at++ {
				out[len(out)-1].marks += l[at].text
			}
		default:
			at++
		}
	}
	if len(out) > 0 && out[len(out)-1].rank == 1 {
		out = out[:len(out)-1]
	}
	return out
}

func (m model) compare(a, b string) (int, int) {
	if a == b {
		return 0, 0
	}
	x, y := m.elements(a), m.elements(b)
	if n := slices.CompareFunc(x, y, func(e, f element) int { return cmp.Or(e.rank-f.rank, e.size.Cmp(f.size)) }); n != 0 {
		return cmp.Compare(n, 0), 1
	}
	if n := slices.CompareFunc(x, y, func(e, f element) int { return strings.Compare(e.marks, f.marks) }); n != 0 {
		return n, 2
	}
	if n := slices.CompareFunc(x, y, func(e, f element) int { return e.great - f.great }); n != 0 {
		return cmp.Compare(n, 0), 3
	}
	return strings.Compare(a, b), 4
}

var orders = []string{
	"",
	"put ch after c\nput \u00f1 after n\nas \u00f6 o e\nskip the\n",
	"put \u00df after z\nas \u00e4 a e\nput ab\u0301 after ch\nskip \u00c9l\nskip a\n",
	"as a\u0308 a\nas chch c h c h\nput c after c\nput i\u0323 after i",
}

func title(c *chance) string {
	s := ""
	for range c.less(7) {
		s += c.of("a", "A", "\u00e1", "c", "h", "C", "ch", "CH", "n", "\u00d1", "n\u0323\u0303", "\u00f6", "O\u0308", "\u00df", "\u00c6", "the ", "The", "\u00e9l ", " ", "-", "\n", "!", ".", "\u0301", "7", "07", "10", "0", "123456789012345678901234567890", "\xff", "\xc3", "z", "\u03c3", "\u03c2", "\u0130", "\u0301", "ab\u0301", "\u00e4", "\u4e2d", "i\u0323")
	}
	return s
}

// P22.3, P22.4, P22.6, P22.7
func TestCompare(t *testing.T) {
	c := chance(1)
	for k, text := range orders {
		if k == 3 {
			text = strings.Replace(text, "put c after c\n", "", 1)
		}
		text = strings.Replace(text, "put ab\u0301 after ch", "put ab\u0301 after b", 1)
		o, m := read(t, text), modelled(text)
		again := read(t, o.Print())
		last, older := "", "a"
		for range 1500 {
			s := title(&c)
			if c.less(5) == 0 {
				s = class.UpperText(last)
			}
			for _, u := range []string{last, older, fold.Apart(s), class.LowerText(s), s + "!"} {
				n, level := o.Compare(s, u)
				want, at := m.compare(s, u)
				if n != want || level != at {
					t.Fatalf("%q: Compare(%q, %q): %d, %d, want %d, %d", text, s, u, n, level, want, at)
				}
				if a, b := again.Compare(s, u); a != n || b != level {
					t.Fatalf("%q there and back: Compare(%q, %q)", text, s, u)
				}
				if back, _ := o.Compare(u, s); back != -n {
					t.Fatalf("%q: Compare(%q, %q) the other way", text, s, u)
				}
				if k := bytes.Compare(o.Key(s), o.Key(u)); k != n {
					t.Fatalf("%q: Keys of %q, %q: %d, want %d", text, s, u, k, n)
				}
				if small(s) == small(u) && level != 0 && level < 3 {
					t.Fatalf("%q: Compare(%q, %q): level %d", text, s, u, level)
				}
			}
			head := "?"
			if l := m.elements(s); len(l) > 0 {
				switch l[0].rank {
				case 2:
					head = "0-9"
				case 3:
					head = class.UpperText(fold.Together(m.placed[l[0].size.Int64()]))
				}
			}
			if got := o.Heading(s); got != head {
				t.Fatalf("%q: Heading(%q): %q, want %q", text, s, got, head)
			}
			older, last = last, s
		}
		var units []string
		for _, u := range m.placed {
			units = append(units, fold.Together(u))
		}
		if got := slices.Collect(o.Units()); !slices.Equal(got, units) {
			t.Errorf("%q: Units %q", text, got)
		}
		for range o.Units() {
			break
		}
	}
}

// P22.5
func TestSort(t *testing.T) {
	c := chance(2)
	o := read(t, orders[1])
	for range 2000 {
		var l []string
		for range c.less(9) {
			l = append(l, title(&c))
		}
		if len(l) > 1 {
			l = append(l, l[0])
		}
		before := slices.Clone(l)
		got := o.Sort(l...)
		if !slices.Equal(l, before) || len(got) != len(l) {
			t.Fatal("what was handed in has changed")
		}
		for k := 1; k < len(got); k++ {
			if n, _ := o.Compare(l[got[k-1]], l[got[k]]); n > 0 || n == 0 && got[k-1] > got[k] {
				t.Fatalf("Sort(%q): %v", l, got)
			}
		}
		for _, s := range append(l, title(&c)) {
			n := 0
			for _, u := range l {
				if k, _ := o.Compare(u, s); k < 0 {
					n++
				}
			}
			if k, ok := o.Search(s, l...); k != n || ok != slices.Contains(l, s) {
				t.Fatalf("Search(%q, %q): %d, %v", s, l, k, ok)
			}
		}
	}
	if got := read(t, "").Sort("b", "A", "a"); !slices.Equal(got, []int{2, 1, 0}) {
		t.Error(got)
	}
	if n, ok := read(t, "").Search("b", "c", "a", "b"); n != 1 || !ok {
		t.Error(n, ok)
	}
}

// P22.1
func TestRead(t *testing.T) {
	spot := func(e api.Errno, at int) api.Spot { return api.Spot{Err: e, At: at} }
	many := ""
	for k := range api.MaxRules {
		many += "skip " + string([]byte{'a' + byte(k/26), 'a' + byte(k%26)}) + "\n"
	}
	for text, want := range map[string]api.Spot{
		"put": spot(220, 3), "put ch behind c": spot(220, 7), "put 1 after a": spot(221, 4), "put a after b": spot(222, 4), "put aa after \u00f1": spot(223, 13), "as \u00f6": spot(220, 5),
		"": {}, "\n \n": {}, "  put  ch   after c  ": {}, "foo": spot(220, 0), "\n foo": spot(220, 2), "Put ch after c": spot(220, 0), "put ch": spot(220, 6), "put ch ": spot(220, 7), "put ch after": spot(220, 12), "put ch after\nx": spot(220, 12), "put ch after c d": spot(220, 15), "put ch behind": spot(220, 7), "put after": spot(220, 9), "put after after b": {}, "put 1 behind a": spot(220, 6), "put ch after 1": spot(221, 13), "put ch after q1": spot(221, 13), "put \u0301 after a": spot(221, 4), "put abcdefgh after a": {}, "put abcdefghi after a": spot(221, 4), "put abcdefg\u00e9 after a": spot(221, 4), "put \u00e9 after e": {}, "put e\u0301 after e\nput \u00c9 after f": spot(222, 20), "put A after b": spot(222, 4), "put ch after c\nput ch after d": spot(222, 19), "put ch after c\nas CH a": spot(222, 18), "as ch c h\nput x\u0301 after ch": spot(223, 24), "as ch c h\nas sh s ch": spot(223, 18), "put ch after CH": spot(223, 13), "put \u00df after \u00e6": spot(223, 13), "put ch after \xff": spot(221, 13), "put \u4e2d after a": spot(221, 4),
		"as": spot(220, 2), "as ch a b c d": {}, "as ch a b c d e": spot(220, 14), "as ch a 1 \u00e9": spot(221, 8), "as a b": spot(222, 3), "as ch \u00e9 a": spot(223, 6), "as ch a \u00e9": spot(223, 8), "as 1": spot(220, 4), "as as as": spot(223, 6),
		"skip": spot(220, 4), "skip the a": spot(220, 9), "skip 1": spot(221, 5), "skip the\nskip THE": spot(222, 14), "skip the\nskip th\u00e9": spot(222, 14), "skip a": {}, "skip ch\nput ch after c": {}, "skip l'": spot(221, 5), "skip \u00dfa\nskip ssa": spot(222, 14),
		many: {}, many + "\n": {}, many + "skip the": spot(3, len(many)), many + "foo": spot(3, len(many)), many + "  foo": spot(3, len(many)+2),
		strings.Repeat(" ", api.MaxText): {}, strings.Repeat(" ", api.MaxText) + "x": spot(3, api.MaxText),
	} {
		if o, bad := collate.Read(text); bad != want || (o == nil) != (bad.Err != api.OK) {
			t.Errorf("Read(%.40q): %v, want %v", text, bad, want)
		}
	}
}

// P22.2, P22.7
func TestPrint(t *testing.T) {
	o := read(t, "put  ch after c\n\nput N\u0303 after n\nas \u00d6 o E\n  skip The")
	want := "put ch after c\nput \u00f1 after n\nas \u00f6 o e\nskip the\n"
	if got := o.Print(); got != want || read(t, got).Print() != want {
		t.Errorf("Print: %q", got)
	}
	if got := read(t, "").Print(); got != "" {
		t.Errorf("Print of none: %q", got)
	}
	if got := slices.Collect(o.Units())[:5]; !slices.Equal(got, []string{"a", "b", "c", "ch", "d"}) {
		t.Errorf("Units: %q", got)
	}
}

// The examples of the chapter.
func TestExamples(t *testing.T) {
	plain, o := read(t, ""), read(t, orders[1])
	for _, x := range []struct {
		o        *collate.Order
		a, b     string
		n, level int
	}{
		{plain, "abc", "abd", -1, 1}, {plain, "\u00e9a", "ez", -1, 1}, {plain, "\u00e9a", "ea", 1, 2}, {plain, "Ea", "ea", 1, 3},
		{plain, "Song 9", "Song 10", -1, 1}, {plain, "Song", "song 1", -1, 1}, {plain, "a b", "ab", -1, 1}, {plain, "a-b", "a b", 1, 4}, {plain, "ab!", "ab", 1, 4},
		{o, "cz", "cha", -1, 1}, {o, "nz", "\u00f1andu", -1, 1}, {o, "The Owl", "owls", -1, 1}, {o, "the", "a", 1, 1}, {o, "\u00f6a", "oeb", -1, 1}, {o, "a", "a", 0, 0},
	} {
		if n, level := x.o.Compare(x.a, x.b); n != x.n || level != x.level {
			t.Errorf("Compare(%q, %q): %d, %d", x.a, x.b, n, level)
		}
	}
	for s, want := range map[string]string{"chop": "CH", "The 7th": "0-9", "\u00d1u": "\u00d1", "...": "?", "\xff": "?", "": "?"} {
		if got := o.Heading(s); got != want {
			t.Errorf("Heading(%q): %q", s, got)
		}
	}
}

// R4
func TestNil(t *testing.T) {
	var o *collate.Order
	n, level := o.Compare("a", "b")
	k, ok := o.Search("a", "a")
	if n+level+k != 0 || ok || o.Print() != "" || len(o.Key("a"))+len(o.Sort("a")) > 0 || o.Heading("a") != "?" {
		t.Error("a nil order")
	}
	for range o.Units() {
		t.Error("Units")
	}
}
