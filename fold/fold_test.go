package fold_test

import (
	"slices"
	"strings"
	"testing"

	"canticle/api"
	"canticle/class"
	"canticle/fold"
	"canticle/runes"
)

// table is that of the chapter.
var table = []struct {
	mark          rune
	bases, joined string
}{
	{0x0300, "AEIOUaeiouЕИеи", "ÀÈÌÒÙàèìòùЀЍѐѝ"},
	{0x0301, "AEIOUYaeiouyCLNRSZclnrsz", "ÁÉÍÓÚÝáéíóúýĆĹŃŔŚŹćĺńŕśź"},
	{0x0301, "ΑΕΗΙΟΥΩαεηιουωГКгкϊϋ", "ΆΈΉΊΌΎΏάέήίόύώЃЌѓќΐΰ"},
	{0x0302, "AEIOUaeiouCGHJSWYcghjswy", "ÂÊÎÔÛâêîôûĈĜĤĴŜŴŶĉĝĥĵŝŵŷ"},
	{0x0303, "ANOanoIUiu", "ÃÑÕãñõĨŨĩũ"},
	{0x0304, "AEIOUaeiou", "ĀĒĪŌŪāēīōū"},
	{0x0306, "AEGIOUaegiouИУиу", "ĂĔĞĬŎŬăĕğĭŏŭЙЎйў"},
	{0x0307, "CEGIZcegz", "ĊĖĠİŻċėġż"},
	{0x0308, "AEIOUaeiouyYЕІеіΙΥιυ", "ÄËÏÖÜäëïöüÿŸЁЇёїΪΫϊϋ"},
	{0x030A, "AUau", "ÅŮåů"},
	{0x030B, "OUou", "ŐŰőű"},
	{0x030C, "CDELNRSTZcdelnrstz", "ČĎĚĽŇŘŠŤŽčďěľňřšťž"},
	{0x0327, "CGKLNRSTcgklnrst", "ÇĢĶĻŅŖŞŢçģķļņŗşţ"},
	{0x0328, "AEIUaeiu", "ĄĘĮŲąęįų"},
}

// made are the joined letters by what they are made of, and the other way about.
var parts, whole = made()

func made() (map[rune][2]rune, map[[2]rune]rune) {
	parts, whole := map[rune][2]rune{}, map[[2]rune]rune{}
	for _, row := range table {
		bases, joined := []rune(row.bases), []rune(row.joined)
		for i, j := range joined {
			parts[j] = [2]rune{bases[i], row.mark}
			whole[parts[j]] = j
		}
	}
	return parts, whole
}

func low(r rune) bool {
	for _, x := range [][2]rune{{0x316, 0x319}, {0x31C, 0x320}, {0x323, 0x333}, {0x339, 0x33C}, {0x345, 0x349}, {0x34D, 0x34E}, {0x353, 0x356}, {0x359, 0x35A}} {
		if r >= x[0] && r <= x[1] {
			return true
		}
	}
	return false
}

// P4.1
func TestRunes(t *testing.T) {
	if len(parts) != 197 || len(whole) != 197 {
		t.Fatal(len(parts), len(whole))
	}
	for r := rune(-3); r < 0x600; r++ {
		want := []rune{r}
		for parts[want[0]] != [2]rune{} {
			p := parts[want[0]]
			want = append([]rune{p[0], p[1]}, want[1:]...)
		}
		if got := fold.Split(r); !slices.Equal(got, want) {
			t.Errorf("Split(%x) = %x", r, got)
		}
		if fold.Low(r) != low(r) {
			t.Errorf("Low(%x)", r)
		}
		for m := rune(0x2FE); m < 0x372; m++ {
			j, ok := whole[[2]rune{r, m}]
			if got, is := fold.Join(r, m); got != j || is != ok {
				t.Fatalf("Join(%x, %x) = %x, %v", r, m, got, is)
			}
		}
	}
	for _, r := range []rune{-1 << 31, 0xD800, 0x110000, 1<<31 - 1, 0xFFFD} {
		if got := fold.Split(r); !slices.Equal(got, []rune{r}) {
			t.Errorf("Split(%x) = %x", r, got)
		}
		if got, ok := fold.Join('e', r); ok || got != 0 {
			t.Errorf("Join of %x", r)
		}
		if got, ok := fold.Join(r, 0x301); ok || got != 0 {
			t.Errorf("Join of %x", r)
		}
	}
	if _, ok := fold.Join(0, 0); ok {
		t.Error("Join of noughts")
	}
}

func texts(yield func(string) bool) {
	bits := []string{"a", "E", "\u00e9", "\u00df", "\u1ec7", "\u00ea", "\u03a3", "\u03c2", "\u0390", "\u03ca", "\u0301", "\u0308", "\u0323", "\u0327", "\u0302", "\u0301", "1", " ", "-", "\xff", "\xc3", "\xa9", "\xe2\x82", "\ufffd", "\n", "\u0130", "\u0131", "\u017f", "\u0149", "\u0133", "\u0401", "\u00e7", "c", "s", "\u0153", "\u014a", "\u4e2d"}
	x := uint64(5)
	for range 4000 {
		s := ""
		for x = x*6364136223846793005 + 1442695040888963407; len(s) < int(x>>60); x = x*6364136223846793005 + 1442695040888963407 {
			s += bits[(x>>33)%uint64(len(bits))]
		}
		if !yield(s) {
			return
		}
	}
}

// piece is a letter with its marks (all of them), or another piece; at is where it begins.
type piece struct {
	at    int
	text  string
	base  rune
	marks []rune
}

// groups takes a text apart as the chapter says it, step by step.
func groups(s string) []piece {
	var l []piece
	for p := range runes.Pieces(s) {
		x := s[p.At : p.At+p.Width]
		if !p.Broken && class.Kind(p.Rune) == api.KindMark && len(l) > 0 && l[len(l)-1].base != 0 {
			l[len(l)-1].marks = append(l[len(l)-1].marks, p.Rune)
			continue
		}
		q := piece{at: p.At, text: x}
		if !p.Broken && class.Kind(p.Rune) == api.KindLetter {
			q.base = p.Rune
			for parts[q.base] != [2]rune{} {
				q.marks = append([]rune{parts[q.base][1]}, q.marks...)
				q.base = parts[q.base][0]
			}
		}
		l = append(l, q)
	}
	for i, q := range l {
		slices.SortStableFunc(q.marks, func(a, b rune) int {
			switch {
			case low(a) && !low(b):
				return -1
			case low(b) && !low(a):
				return 1
			}
			return 0
		})
		if q.base != 0 {
			l[i].text = string(q.base) + string(q.marks)
		}
	}
	return l
}

func folded(r rune) string {
	small := string(class.Lower(r))
	for _, x := range strings.Fields("\u00df=ss \u00e6=ae \u00f8=o \u00f0=d \u00fe=th \u0111=d \u0127=h \u0131=i \u0133=ij \u0138=q \u0140=l \u0142=l \u0149=n \u014b=ng \u0153=oe \u0167=t \u017f=s \u03c2=\u03c3") {
		if from, to, _ := strings.Cut(x, "="); from == small {
			return to
		}
	}
	return small
}

// P4.2, P4.3, P4.5
func TestTexts(t *testing.T) {
	for s := range texts {
		apart, together, bare, all := "", "", "", ""
		var places []int
		for _, g := range groups(s) {
			apart += g.text
			if g.base == 0 {
				together, bare, all = together+g.text, bare+g.text, all+g.text
			} else {
				letter := g.base
				var stay []rune
				for _, m := range g.marks {
					j, ok := whole[[2]rune{letter, m}]
					if ok && !slices.ContainsFunc(stay, func(k rune) bool { return low(k) == low(m) }) {
						letter = j
					} else {
						stay = append(stay, m)
					}
				}
				together += string(letter) + string(stay)
				bare += string(g.base)
				all += folded(g.base)
			}
			for len(places) < len(all) {
				places = append(places, g.at)
			}
		}
		for _, x := range []struct{ name, got, want string }{{"Apart", fold.Apart(s), apart}, {"Together", fold.Together(s), together}, {"Bare", fold.Bare(s), bare}, {"Fold", fold.Fold(s), all}} {
			if x.got != x.want {
				t.Fatalf("%s(%q) = %q, want %q", x.name, s, x.got, x.want)
			}
		}
		if f, l := fold.Trace(s); f != all || !slices.Equal(l, places) {
			t.Fatalf("Trace(%q) = %q, %v, want %q, %v", s, f, l, all, places)
		}
	}
	for r := rune(-1); r < 0x500; r++ {
		if fold.FoldRune(r) != fold.Fold(runes.Encode(r)) {
			t.Errorf("FoldRune(%x)", r)
		}
		if class.Great(r) || class.Small(r) {
			want := ""
			for _, g := range groups(string(r)) {
				want += folded(g.base)
			}
			if got := fold.Fold(string(r)); got != want {
				t.Errorf("Fold of %x: %q, want %q", r, got, want)
			}
		}
	}
}

// P4.4, P4.7
func TestFollows(t *testing.T) {
	last := ""
	for s := range texts {
		f, a, b, c := fold.Fold(s), fold.Apart(s), fold.Bare(s), fold.Together(s)
		if fold.Fold(f) != f || fold.Apart(a) != a || fold.Bare(b) != b || fold.Together(c) != c {
			t.Fatalf("twice: %q", s)
		}
		if fold.Apart(c) != a || fold.Together(a) != c {
			t.Fatalf("Apart and Together of %q", s)
		}
		for _, x := range []string{a, b, c, class.LowerText(s), class.UpperText(s), class.HeadText(s)} {
			if !fold.Same(x, s) || fold.Fold(x) != f {
				t.Fatalf("%q and %q are not the same letters", x, s)
			}
			var bad, kept string
			for _, at := range runes.Broken(x) {
				bad += x[at : at+1]
			}
			for _, at := range runes.Broken(s) {
				kept += s[at : at+1]
			}
			if bad != kept {
				t.Fatalf("the broken bytes of %q: %q", s, bad)
			}
		}
		if fold.Same(s, last) != (f == fold.Fold(last)) {
			t.Fatalf("Same(%q, %q)", s, last)
		}
		if _, ok := runes.Seam(last, s); !ok && (s == "" || class.Kind(runes.To(s)[0]) != api.KindMark) {
			if fold.Fold(last+s) != fold.Fold(last)+f || fold.Apart(last+s) != fold.Apart(last)+a || fold.Bare(last+s) != fold.Bare(last)+b || fold.Together(last+s) != fold.Together(last)+c {
				t.Fatalf("%q and %q together", last, s)
			}
		}
		last = s
	}
}

// P4.5
func TestBack(t *testing.T) {
	for s := range texts {
		f, l := fold.Trace(s)
		l = append(l, len(s))
		for from := -1; from <= len(f)+1; from++ {
			for to := -1; to <= len(f)+1; to++ {
				x, e := fold.Back(s, api.Span{From: from, To: to})
				if from < 0 || to < from || to > len(f) {
					if e != api.ErrRange || x != (api.Span{}) {
						t.Fatalf("Back(%q, %d to %d) = %v, %v", s, from, to, x, e)
					}
				} else if e != api.OK || x != (api.Span{From: l[from], To: l[to]}) {
					t.Fatalf("Back(%q, %d to %d) = %v, %v", s, from, to, x, e)
				}
			}
		}
		if x, _ := fold.Back(s, api.Span{To: len(f)}); x != (api.Span{To: len(s)}) {
			t.Fatalf("Back of the whole of %q: %v", s, x)
		}
	}
	if _, e := fold.Back("a", api.Span{From: -1 << 63, To: 1<<63 - 1}); e != api.ErrRange {
		t.Error("Back of a huge span", e)
	}
}

// found tries all spans, the earliest first, the shortest first.
func found(s, t string, from int) (api.Span, bool) {
	key := fold.Fold(t)
	if key == "" || from < 0 || from > len(s) {
		return api.Span{}, false
	}
	var at []int
	for _, g := range groups(s) {
		at = append(at, g.at)
	}
	at = append(at, len(s))
	for i, a := range at {
		for _, b := range at[i:] {
			if a >= from && fold.Fold(s[a:b]) == key {
				return api.Span{From: a, To: b}, true
			}
		}
	}
	return api.Span{}, false
}

// P4.6
func TestFind(t *testing.T) {
	last := "s"
	for s := range texts {
		keys := []string{last, "s", "e", "ss", "\u0301", "\xa9", "\xc3", "\u03c3", ""}
		for i := 0; i+1 < len(s); i += 2 {
			keys = append(keys, class.UpperText(s[i:]), s[i:i+2])
		}
		for _, key := range keys {
			for _, from := range []int{-1, 0, 1, len(s) / 2, len(s), len(s) + 1} {
				x, ok := fold.Find(s, key, from)
				if want, is := found(s, key, from); x != want || ok != is {
					t.Fatalf("Find(%q, %q, %d) = %v, %v, want %v, %v", s, key, from, x, ok, want, is)
				}
			}
		}
		last = s[:min(3, len(s))]
	}
	if _, ok := fold.Find("a", "a", -1<<63); ok {
		t.Error("Find from far ahead")
	}
	if _, ok := fold.Find("a", "a", 1<<63-1); ok {
		t.Error("Find from far behind")
	}
}

// The examples of the chapter.
func TestExamples(t *testing.T) {
	for _, x := range [][2]string{
		{fold.Apart("e\u0302\u0323"), "e\u0323\u0302"}, {fold.Apart("\u00e9"), "e\u0301"},
		{fold.Together("e\u0323\u0301"), "\u00e9\u0323"}, {fold.Together("e\u0302\u0301"), "\u00ea\u0301"}, {fold.Together(" \u0301"), " \u0301"}, {fold.Together("\u03b9\u0308\u0301"), "\u0390"},
		{fold.Bare("\u00c4rger"), "Arger"}, {fold.Bare(" \u0301\u00e9"), " \u0301e"},
		{fold.Fold("Stra\u00dfe"), "strasse"}, {fold.Fold("\u0152UVRE"), "oeuvre"}, {fold.Fold("\u039f\u0394\u03a5\u03a3\u03a3\u0395\u038e\u03a3"), "\u03bf\u03b4\u03c5\u03c3\u03c3\u03b5\u03c5\u03c3"}, {fold.Fold("\u0149"), "n"}, {fold.Fold("\u0130"), "i"}, {fold.Fold("\u0401\u043b\u043a\u0430"), "\u0435\u043b\u043a\u0430"},
		{fold.Fold("\xc3\u0301\xa9"), "\xc3\u0301\xa9"}, {fold.Fold("e\u0301\xa9"), "e\xa9"},
	} {
		if x[0] != x[1] {
			t.Errorf("%q, want %q", x[0], x[1])
		}
	}
	if x, ok := fold.Find("Stra\u00dfe", "ss", 0); !ok || x != (api.Span{From: 4, To: 6}) {
		t.Error("Find", x, ok)
	}
	if x, e := fold.Back("a\u00df\u0301b", api.Span{From: 2, To: 4}); e != api.OK || x != (api.Span{From: 1, To: 6}) {
		t.Error("Back", x, e)
	}
}

// Long texts are gone through in time.
func TestLong(t *testing.T) {
	s := strings.Repeat("\u00df", 1<<15)
	if _, ok := fold.Find(s, strings.Repeat("s", 1<<15+1), 0); ok {
		t.Error("an odd number of s")
	}
	if x, ok := fold.Find(s, strings.Repeat("s", 1<<15), 7); !ok || x.From != 8 {
		t.Error("an even number of s", x)
	}
	if fold.Together(strings.Repeat("e\u0301", 1<<15)) != strings.Repeat("\u00e9", 1<<15) {
		t.Error("Together")
	}
}
