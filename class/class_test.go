package class_test

import (
	"slices"
	"strings"
	"testing"
	"unicode/utf8"

	"canticle/api"
	"canticle/class"
	"canticle/runes"
)

// span is runes from one to another, each step-th.
type span struct{ from, to, step rune }

var great = []span{{0x41, 0x5A, 1}, {0xC0, 0xD6, 1}, {0xD8, 0xDE, 1}, {0x100, 0x136, 2}, {0x139, 0x147, 2}, {0x14A, 0x176, 2}, {0x178, 0x178, 1}, {0x179, 0x17D, 2}, {0x386, 0x386, 1}, {0x388, 0x38A, 1}, {0x38C, 0x38C, 1}, {0x38E, 0x38F, 1}, {0x391, 0x3A1, 1}, {0x3A3, 0x3AB, 1}, {0x400, 0x42F, 1}}

var small = []span{{0x61, 0x7A, 1}, {0xDF, 0xF6, 1}, {0xF8, 0xFF, 1}, {0x101, 0x137, 2}, {0x138, 0x138, 1}, {0x13A, 0x148, 2}, {0x149, 0x149, 1}, {0x14B, 0x177, 2}, {0x17A, 0x17E, 2}, {0x17F, 0x17F, 1}, {0x390, 0x390, 1}, {0x3AC, 0x3CE, 1}, {0x430, 0x45F, 1}}

var vowels = []span{{0xE0, 0xE6, 1}, {0xE8, 0xEF, 1}, {0xF2, 0xF6, 1}, {0xF8, 0xFD, 1}, {0xFF, 0xFF, 1}, {0x101, 0x105, 2}, {0x113, 0x11B, 2}, {0x129, 0x131, 2}, {0x14D, 0x153, 2}, {0x169, 0x173, 2}, {0x177, 0x177, 1}, {0x390, 0x390, 1}, {0x3AC, 0x3B1, 1}, {0x3B5, 0x3B5, 1}, {0x3B7, 0x3B7, 1}, {0x3B9, 0x3B9, 1}, {0x3BF, 0x3BF, 1}, {0x3C5, 0x3C5, 1}, {0x3C9, 0x3CE, 1}}

const otherVowels = "aeiouy\u0430\u0435\u0438\u043E\u0443\u044B\u044D\u044E\u044F\u0450\u0451\u0454\u0456\u0457\u045D"

func in(r rune, l []span) bool {
	return slices.ContainsFunc(l, func(x span) bool { return r >= x.from && r <= x.to && (r-x.from)%x.step == 0 })
}

func isLetter(r rune) bool { return in(r, great) || in(r, small) }

// kind is the table of the chapter, row by row.
func kind(r rune) api.Kind {
	one := func(l ...span) bool { return in(r, l) }
	switch {
	case r < 0 || r > 0x10FFFF || r >= 0xD800 && r <= 0xDFFF:
		return 0
	case isLetter(r):
		return 1
	case one(span{0x300, 0x36F, 1}):
		return 2
	case one(span{0x30, 0x39, 1}):
		return 3
	case r == 0xA || r == 0xD:
		return 4
	case r == 9 || r == 0x20 || r == 0xA0 || r == 0x202F || r == 0x205F || r == 0x3000 || one(span{0x2000, 0x200A, 1}):
		return 5
	case r == 0x2D || one(span{0x2010, 0x2015, 1}):
		return 6
	case strings.ContainsRune("\"'\u00ab\u00bb\u2039\u203a", r) || one(span{0x2018, 0x201F, 1}):
		return 7
	case strings.ContainsRune("!,.:;?\u00a1\u00b7\u00bf\u2026", r):
		return 8
	case r == 0xFEFF || one(span{0, 0x1F, 1}, span{0x7F, 0x9F, 1}, span{0x200B, 0x200F, 1}):
		return 9
	}
	return 10
}

// lower is the small one of a great letter, as the chapter lists them.
func lower(r rune) rune {
	if !in(r, great) {
		return r
	}
	for _, x := range []struct{ from, to, more rune }{{0x41, 0x5A, 0x20}, {0xC0, 0xDE, 0x20}, {0x391, 0x3AB, 0x20}, {0x410, 0x42F, 0x20}, {0x400, 0x40F, 0x50}, {0x130, 0x130, 0x69 - 0x130}, {0x178, 0x178, 0xFF - 0x178}, {0x386, 0x386, 0x3AC - 0x386}, {0x388, 0x38A, 0x25}, {0x38C, 0x38C, 0x3CC - 0x38C}, {0x38E, 0x38F, 0x3F}} {
		if r >= x.from && r <= x.to {
			return r + x.more
		}
	}
	return r + 1
}

func upper(r rune) rune {
	switch r {
	case 0x69, 0x131:
		return 0x49
	case 0x17F:
		return 0x53
	case 0x3C2:
		return 0x3A3
	}
	if !in(r, small) {
		return r
	}
	for g := rune(0x41); g < 0x430; g++ {
		if in(g, great) && lower(g) == r {
			return g
		}
	}
	return r
}

// P3.1, P3.2, P3.8
func TestRunes(t *testing.T) {
	check := func(r rune) {
		if class.Kind(r) != kind(r) {
			t.Errorf("Kind(%x) = %d", r, class.Kind(r))
		}
		if class.Great(r) != in(r, great) || class.Small(r) != in(r, small) {
			t.Errorf("Great, Small of %x: %v %v", r, class.Great(r), class.Small(r))
		}
		if l := lower(r); class.Vowel(r) != (isLetter(r) && (in(l, vowels) || strings.ContainsRune(otherVowels, l))) {
			t.Errorf("Vowel(%x) = %v", r, class.Vowel(r))
		}
		n, ok := class.Digit(r)
		if want := r >= '0' && r <= '9'; ok != want || want && n != int(r-'0') || !want && n != 0 {
			t.Errorf("Digit(%x) = %d, %v", r, n, ok)
		}
		script := api.ScriptNone
		switch {
		case !isLetter(r):
		case r <= 0x17F:
			script = api.ScriptLatin
		case r <= 0x3CE:
			script = api.ScriptGreek
		default:
			script = api.ScriptCyrillic
		}
		if class.Script(r) != script {
			t.Errorf("Script(%x) = %d", r, class.Script(r))
		}
		if class.Lower(r) != lower(r) || class.Upper(r) != upper(r) {
			t.Errorf("Lower, Upper of %x: %x, %x; want %x, %x", r, class.Lower(r), class.Upper(r), lower(r), upper(r))
		}
	}
	for r := rune(-5); r < 0x3100; r++ {
		check(r)
	}
	for _, r := range []rune{-1 << 31, 0x4E2D, 0xD7FF, 0xD800, 0xDFFF, 0xE000, 0xFEFE, 0xFEFF, 0xFF00, 0xFFFD, 0x10FFFF, 0x110000, 1<<31 - 1, 0x1F600} {
		check(r)
	}
}

// P3.1: of pieces.
func TestOf(t *testing.T) {
	if class.Of(api.Piece{Rune: 'a', Broken: true}) != api.KindBroken || class.Of(api.Piece{Rune: 0xFFFD, Broken: true}) != api.KindBroken {
		t.Error("a broken byte")
	}
	if class.Of(api.Piece{Rune: 0xFFFD, Width: 1}) != api.KindSign || class.Of(api.Piece{Rune: -7, At: -1}) != api.KindNone || class.Of(api.Piece{Rune: 'a'}) != api.KindLetter {
		t.Error("of a rune")
	}
}

func texts(yield func(string) bool) {
	bits := []string{"a", "A", "\u00df", "\u00c9", "\u03a3", "\u03a3", "\u03c2", "\u03c3", "\u0301", "\u0301", "1", " ", "'", "\xff", "\xc3", "\xa9", "\xe2\x82", "\ufffd", "\r", "\n", "\u0130", "\u0131", "\u017f", "\u0149", "\u0401", "\u0451", "\u0178", "\u4e2d", "\U0001F600"}
	x := uint64(11)
	for range 4000 {
		s := ""
		for x = x*6364136223846793005 + 1442695040888963407; len(s) < int(x>>60); x = x*6364136223846793005 + 1442695040888963407 {
			s += bits[(x>>33)%uint64(len(bits))]
		}
		if !yield(s) {
			return
		}
	}
}

// turned is what the chapter says of the three texts, piece by piece.
func turned(s string) (small, all, head string) {
	var l []api.Piece
	for p := range runes.Pieces(s) {
		l = append(l, p)
	}
	near := func(i, step int) bool {
		for i += step; i >= 0 && i < len(l) && !l[i].Broken && kind(l[i].Rune) == 2; i += step {
		}
		return i >= 0 && i < len(l) && !l[i].Broken && isLetter(l[i].Rune)
	}
	for i, p := range l {
		a := s[p.At : p.At+p.Width]
		b, c := a, a
		if !p.Broken {
			a, b = string(lower(p.Rune)), string(upper(p.Rune))
			if p.Rune == 0x3A3 && near(i, -1) && !near(i, 1) {
				a = "\u03c2"
			}
			c = b
			if near(i, -1) {
				c = a
			}
			if p.Rune == 0xDF {
				b = "SS"
			}
		}
		small, all, head = small+a, all+b, head+c
	}
	return small, all, head
}

// P3.3, P3.4, P3.5, P3.9
func TestTexts(t *testing.T) {
	for s := range texts {
		small, all, head := turned(s)
		if got := class.LowerText(s); got != small || class.LowerText(got) != got {
			t.Fatalf("LowerText(%q) = %q, want %q", s, got, small)
		}
		if got := class.UpperText(s); got != all || class.UpperText(got) != got {
			t.Fatalf("UpperText(%q) = %q, want %q", s, got, all)
		}
		if got := class.HeadText(s); got != head {
			t.Fatalf("HeadText(%q) = %q, want %q", s, got, head)
		}
		if !strings.Contains(s, "\u0130") && class.UpperText(small) != all {
			t.Fatalf("UpperText of LowerText(%q)", s)
		}
		n, bad := runes.Count(s)
		if k, b := runes.Count(small); k != n || b != bad {
			t.Fatalf("LowerText(%q) has %d pieces", s, k)
		}
		if k, b := runes.Count(all); k != n+strings.Count(s, "\u00df") || b != bad {
			t.Fatalf("UpperText(%q) has %d pieces", s, k)
		}
	}
	for s, want := range map[string]string{"\u039f\u0394\u03a5\u03a3\u03a3\u0395\u03a5\u03a3": "\u03bf\u03b4\u03c5\u03c3\u03c3\u03b5\u03c5\u03c2", "\u03a3": "\u03c3", "\u0391\u03a3\u0301a": "\u03b1\u03c3\u0301a", "\u0391\u03a3\xff\u0391": "\u03b1\u03c2\xff\u03b1"} {
		if got := class.LowerText(s); got != want {
			t.Errorf("LowerText(%q) = %q", s, got)
		}
	}
	if got := class.HeadText("the FOX's \u00e4rger"); got != "The Fox'S \u00c4rger" {
		t.Errorf("HeadText = %q", got)
	}
	if got := class.UpperText("stra\u00dfe"); got != "STRASSE" {
		t.Errorf("UpperText = %q", got)
	}
}

// P3.6
func TestCase(t *testing.T) {
	for s := range texts {
		n, up, first := 0, 0, false
		for _, r := range s {
			if isLetter(r) {
				if in(r, great) {
					up++
					first = first || n == 0
				}
				n++
			}
		}
		want := api.CaseMixed
		switch {
		case n == 0:
			want = api.CaseNone
		case up == 0:
			want = api.CaseSmall
		case up == n:
			want = api.CaseGreat
		case up == 1 && first:
			want = api.CaseHead
		}
		if got := class.Case(s); got != want {
			t.Fatalf("Case(%q) = %d, want %d", s, got, want)
		}
	}
	for s, want := range map[string]api.Case{"": 0, "a1": 1, "A": 2, "AB": 2, "Ab": 3, "aB": 4, "\u00df": 1, "1Ab": 3, "\xff": 0} {
		if got := class.Case(s); got != want {
			t.Errorf("Case(%q) = %d", s, got)
		}
	}
}

// P3.7, P3.10
func TestRuns(t *testing.T) {
	for s := range texts {
		at, last := 0, api.Kind(-1)
		for x := range class.Runs(s) {
			if x.From != at || x.To <= at || x.Kind == last {
				t.Fatalf("Runs(%q): %v", s, x)
			}
			for i, r := range s[x.From:x.To] {
				want := kind(r)
				if r == 0xFFFD && !strings.HasPrefix(s[x.From+i:], "\ufffd") {
					want = api.KindBroken
				}
				if want != x.Kind {
					t.Fatalf("Runs(%q): %v", s, x)
				}
			}
			at, last = x.To, x.Kind
		}
		if at != len(s) {
			t.Fatalf("Runs(%q) end at %d", s, at)
		}
		var want, got []int
		for i, r := range s {
			if isLetter(r) {
				want = append(want, i, int(r))
			}
		}
		for i, r := range class.Letters(s) {
			got = append(got, i, int(r))
		}
		if !slices.Equal(got, want) {
			t.Fatalf("Letters(%q) = %v", s, got)
		}
	}
	n := 0
	for range class.Runs("a1b") {
		n++
		break
	}
	for range class.Letters("abc") {
		n++
		break
	}
	if n != 2 {
		t.Error("left early:", n)
	}
}

// P3.9: of two texts laid together.
func TestTogether(t *testing.T) {
	last := ""
	for s := range texts {
		r, _ := utf8.DecodeRuneInString(s)
		q, _ := utf8.DecodeLastRuneInString(last)
		if k, j := kind(r), kind(q); s == "" || last == "" || k > 2 || j > 2 {
			if _, ok := runes.Seam(last, s); !ok && class.LowerText(last+s) != class.LowerText(last)+class.LowerText(s) {
				t.Fatalf("LowerText of %q and %q", last, s)
			}
		}
		last = s
	}
}

// Long texts are gone through in time.
func TestLong(t *testing.T) {
	s := strings.Repeat("\u03a3\u0301", 1<<15)
	if got := class.LowerText(s); got != strings.Repeat("\u03c3\u0301", 1<<15-1)+"\u03c2\u0301" {
		t.Error("sigmas and marks")
	}
}
