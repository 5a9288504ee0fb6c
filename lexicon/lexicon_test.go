package lexicon_test

import (
	"maps"
	"slices"
	"strconv"
	"strings"
	"testing"

	"canticle/api"
	"canticle/class"
	"canticle/fold"
	"canticle/lexicon"
	"canticle/phone"
	"canticle/rule"
)

// phones reads a row of phones.
func phones(s string) []api.Phone {
	l, bad := phone.Read(s)
	if bad.Err != api.OK {
		panic(s)
	}
	return l
}

// spoken reads a way to speak: ' stands ahead of the main stress, , ahead of a second one.
func spoken(s string) api.Spoken {
	x := api.Spoken{Phones: phones(strings.NewReplacer("'", "", ",", "").Replace(s))}
	stress := 0
	for at := 0; at < len(s); {
		switch s[at] {
		case '\'':
			stress = 2
			at++
			continue
		case ',':
			stress = 1
			at++
			continue
		}
		for y, p := range phone.Each(s[at:]) {
			if phone.Sonority(p) == 7 {
				x.Stress = append(x.Stress, stress)
				stress = 0
			}
			at += y.To
			break
		}
	}
	return x
}

func all(l ...string) []api.Spoken {
	var out []api.Spoken
	for _, s := range l {
		out = append(out, spoken(s))
	}
	return out
}

func same(a, b []api.Spoken) bool {
	return slices.EqualFunc(a, b, func(x, y api.Spoken) bool {
		return slices.Equal(x.Phones, y.Phones) && slices.Equal(x.Stress, y.Stress)
	})
}

// wind is the lexicon of the chapter's examples.
func wind(t *testing.T) *lexicon.Lexicon {
	t.Helper()
	l := lexicon.New(nil)
	if e := l.Add("Wind", all("w'ind", "w'ai\u032fnd")...); e != api.OK {
		t.Fatal(e)
	}
	if e := l.End("s", phones("z")...); e != api.OK {
		t.Fatal(e)
	}
	return l
}

// P10.1
func TestKey(t *testing.T) {
	for s, want := range map[string]string{"Don\u2019t": "don't", "\u00c9COLE": "ecole", "a\u2010b": "a-b", "\u2019\u2010\xff": "'-\xff", "": "", "Stra\u00dfe \u2018": "strasse \u2018"} {
		if got := lexicon.Key(s); got != want || lexicon.Key(got) != want {
			t.Errorf("Key(%q) = %q", s, got)
		}
	}
}

// P10.1
func TestMay(t *testing.T) {
	a := api.Phone{Rune: 'a'}
	row := func(n int) []api.Phone { return slices.Repeat([]api.Phone{{Rune: 't'}}, n) }
	for _, x := range []struct {
		s    api.Spoken
		want bool
	}{
		{api.Spoken{}, false}, {api.Spoken{Phones: phones("t")}, true}, {api.Spoken{Phones: phones("a")}, false},
		{api.Spoken{Phones: phones("a"), Stress: []int{2}}, true}, {api.Spoken{Phones: phones("a"), Stress: []int{1}}, true}, {api.Spoken{Phones: phones("a"), Stress: []int{0}}, true},
		{api.Spoken{Phones: phones("a"), Stress: []int{3}}, false}, {api.Spoken{Phones: phones("a"), Stress: []int{-1}}, false}, {api.Spoken{Phones: phones("a"), Stress: []int{0, 0}}, false}, {api.Spoken{Phones: phones("t"), Stress: []int{0}}, false},
		{api.Spoken{Phones: phones("ata"), Stress: []int{2, 2}}, false}, {api.Spoken{Phones: phones("ata"), Stress: []int{2, 1}}, true}, {api.Spoken{Phones: phones("ata"), Stress: []int{1, 1}}, true}, {api.Spoken{Phones: phones("ata"), Stress: []int{2}}, false},
		{api.Spoken{Phones: []api.Phone{{Rune: 'c'}}}, false}, {api.Spoken{Phones: []api.Phone{a, {}}, Stress: []int{0}}, false},
		{api.Spoken{Phones: row(api.MaxPhones)}, true}, {api.Spoken{Phones: row(api.MaxPhones + 1)}, false},
		{api.Spoken{Phones: slices.Repeat([]api.Phone{a}, api.MaxSyllables), Stress: make([]int, api.MaxSyllables)}, true},
		{api.Spoken{Phones: slices.Repeat([]api.Phone{a}, api.MaxSyllables+1), Stress: make([]int, api.MaxSyllables+1)}, false},
	} {
		if lexicon.May(x.s) != x.want {
			t.Errorf("May(%v)", x.s)
		}
	}
}

// P10.3: what is refused changes nothing.
func TestRefused(t *testing.T) {
	l := wind(t)
	text := l.Print()
	word := strings.Repeat("a", api.MaxWord)
	for _, x := range []struct {
		name string
		got  api.Errno
		want api.Errno
	}{
		{"the same", l.Add("wind", spoken("w'ind")), api.ErrSpoken},
		{"the same behind another one", l.Add("w\u00ednd", spoken("w'i"), spoken("w'ind")), api.ErrSpoken},
		{"twice the same", l.Add("x", spoken("a"), spoken("a")), api.ErrSpoken},
		{"what may not be", l.Add("x", spoken("a"), api.Spoken{}), api.ErrSpoken},
		{"two words", l.Add("two words", spoken("a")), api.ErrWord},
		{"nothing", l.Add("x"), api.ErrArg},
		{"no word, and nothing", l.Add(""), api.ErrWord},
		{"no word", l.Add("", spoken("a")), api.ErrWord},
		{"a digit", l.Add("a1", spoken("a")), api.ErrWord},
		{"a long word", l.Add(word+"a", spoken("a")), api.ErrWord},
		{"a long key", l.Add(word[:63]+"\u00df", spoken("a")), api.ErrWord},
		{"too many", l.Add("x", all("a", "e", "i", "o", "u", "at", "et", "it", "ot")...), api.ErrLong},
		{"too many, and no way", l.Add("x", all("a", "e", "i", "o", "u", "at", "et", "it", "a")...), api.ErrSpoken},
		{"too many in all", l.Add("wind", all("a", "e", "i", "o", "u", "at", "et")...), api.ErrLong},
		{"an ending that is none", l.End("s-", phones("z")...), api.ErrWord},
		{"no ending", l.End("", phones("z")...), api.ErrWord},
		{"a long ending", l.End(word[:17], phones("z")...), api.ErrWord},
		{"no ending, and no phones", l.End("1"), api.ErrWord},
		{"no phones", l.End("t"), api.ErrSpoken},
		{"many phones", l.End("t", phones(strings.Repeat("t", 17))...), api.ErrSpoken},
		{"no phone", l.End("s", api.Phone{Rune: 'c'}), api.ErrSpoken},
		{"what is not there", l.Remove("wound"), api.ErrNone},
		{"an ending", l.Remove("s"), api.ErrNone},
	} {
		if x.got != x.want {
			t.Errorf("%s: %v, want %v", x.name, x.got, x.want)
		}
		if l.Print() != text {
			t.Fatalf("%s: %q", x.name, l.Print())
		}
	}
	if e := l.Add(word, spoken("a")); e != api.OK {
		t.Error("a word at the limit", e)
	}
	if e := l.End(word[:16], phones(strings.Repeat("t", 16))...); e != api.OK {
		t.Error("an ending at the limit", e)
	}
	if e := l.Add("wind", all("a", "e", "i", "o", "u", "at")...); e != api.OK {
		t.Error("eight ways", e)
	}
	if e := l.End("S", phones("s")...); e != api.OK {
		t.Error("an ending anew", e)
	}
	if got, from := l.Sounds("winds"); from != api.SourceEnding || len(got) != 8 || !same(got[:1], all("w'inds")) {
		t.Error("winds", got, from)
	}
}

// P10.3: as many words and endings as go.
func TestMany(t *testing.T) {
	l := lexicon.New(nil)
	name := func(k int) string {
		return string([]byte{'a' + byte(k/676), 'a' + byte(k/26%26), 'a' + byte(k%26)})
	}
	for k := range api.MaxWords {
		if e := l.Add(name(k), spoken("a")); e != api.OK {
			t.Fatal(k, e)
		}
	}
	for k := range api.MaxEndings {
		if e := l.End(name(k), phones("a")...); e != api.OK {
			t.Fatal(k, e)
		}
	}
	if e := l.Add("one", spoken("a")); e != api.ErrLong || l.Len() != api.MaxWords {
		t.Error("one word more", e)
	}
	if e := l.Add("aaa", spoken("e")); e != api.OK {
		t.Error("a way more", e)
	}
	if e := l.End("one", phones("a")...); e != api.ErrLong {
		t.Error("one ending more", e)
	}
	if e := l.End("aaa", phones("e")...); e != api.OK {
		t.Error("an ending anew", e)
	}
	if e := l.Remove("aaa"); e != api.OK {
		t.Error(e)
	}
	if e := l.Add("one", spoken("a")); e != api.OK {
		t.Error("behind Remove", e)
	}
	text := l.Print()
	if _, bad := lexicon.Read(text, nil); bad.Err != api.OK {
		t.Error("read at the limits", bad)
	}
	if _, bad := lexicon.Read(text+"two = a", nil); bad != (api.Spot{Err: api.ErrLong, At: len(text)}) {
		t.Error("a word more", bad)
	}
	if _, bad := lexicon.Read(text+"-two = a", nil); bad != (api.Spot{Err: api.ErrLong, At: len(text)}) {
		t.Error("an ending more", bad)
	}
	if _, bad := lexicon.Read(text+"one = a", nil); bad != (api.Spot{Err: api.ErrEntry, At: len(text)}) {
		t.Error("a word again", bad)
	}
	if _, bad := lexicon.Read(text+"1 = a", nil); bad != (api.Spot{Err: api.ErrWord, At: len(text)}) {
		t.Error("no word", bad)
	}
}

// P10.4
func TestSounds(t *testing.T) {
	l := wind(t)
	for _, x := range []struct {
		word string
		want []api.Spoken
		from int
	}{
		{"WIND", all("w'ind", "w'ai\u032fnd"), api.SourceWord}, {"w\u00ednd", all("w'ind", "w'ai\u032fnd"), api.SourceWord},
		{"winds", all("w'indz", "w'ai\u032fndz"), api.SourceEnding}, {"wound", nil, api.SourceNone}, {"s", nil, api.SourceNone}, {"", nil, api.SourceNone}, {"wind s", nil, api.SourceNone}, {"windss", nil, api.SourceNone},
	} {
		if got, from := l.Sounds(x.word); from != x.from || !same(got, x.want) {
			t.Errorf("Sounds(%q): %v, %d", x.word, got, from)
		}
	}
	l.End("es", phones("iz")...)
	l.End("ies", phones("ai\u032f")...)
	l.Add("win", spoken("win"))
	l.Add("winde", spoken("w'e"))
	for word, want := range map[string]string{"windes": "w'indiz", "winies": "winai\u032f", "wins": "winz", "windies": "w'indai\u032f", "windees": "w'eiz"} {
		if got, from := l.Sounds(word); from != api.SourceEnding || !same(got[:1], all(want)) {
			t.Errorf("Sounds(%q): %v, %d", word, got, from)
		}
	}
	for word, want := range map[string][3]string{"winds": {"wind", "s", "y"}, "WIND\u00c9S": {"wind", "es", "y"}, "wind": {"", "", ""}, "s": {"", "", ""}, "windes": {"wind", "es", "y"}, "windies": {"wind", "ies", "y"}} {
		if a, b, ok := l.Stem(word); a != want[0] || b != want[1] || ok != (want[2] == "y") {
			t.Errorf("Stem(%q): %q, %q, %v", word, a, b, ok)
		}
	}
	l.Add("winds", spoken("w'o"))
	if got, from := l.Sounds("winds"); from != api.SourceWord || !same(got, all("w'o")) {
		t.Error("winds", got, from)
	}
	if a, b, ok := l.Stem("winds"); a != "wind" || b != "s" || !ok {
		t.Error("Stem of a word that is there", a, b, ok)
	}
	l.Remove("WINDS")
	if _, from := l.Sounds("winds"); from != api.SourceEnding {
		t.Error("behind Remove", from)
	}
}

// P10.4: ways that are too long are left out; then the rules are asked.
func TestTooLong(t *testing.T) {
	r, _ := rule.Read("(a) > a\n(\u00e9) > e\n(\u00df) > s\u02d0\n(t) >")
	l := lexicon.New(r)
	l.Add("a", api.Spoken{Phones: slices.Repeat(phones("t"), api.MaxPhones)}, spoken("t"))
	l.Add("b", api.Spoken{Phones: slices.Repeat(phones("o"), api.MaxSyllables), Stress: make([]int, api.MaxSyllables)})
	l.End("a", phones("a")...)
	if got, from := l.Sounds("aa"); from != api.SourceEnding || !same(got, all("ta")) {
		t.Error("aa", got, from)
	}
	if got, from := l.Sounds("ba"); from != api.SourceRules || len(got) != 1 || !slices.Equal(got[0].Phones, phones("a")) || len(got[0].Stress) != 0 {
		t.Error("ba", got, from)
	}
	if a, b, ok := l.Stem("ba"); a != "b" || b != "a" || !ok {
		t.Error("Stem(ba)", a, b, ok)
	}
	for word, want := range map[string]string{"e\u0301\u00df": "es\u02d0", "\u00e9": "e", "\u00c9T": "e"} {
		if got, from := l.Sounds(word); from != api.SourceRules || len(got) != 1 || !slices.Equal(got[0].Phones, phones(want)) || len(got[0].Stress) != 0 {
			t.Errorf("Sounds(%q): %v, %d", word, got, from)
		}
	}
	for _, word := range []string{"t", "e", strings.Repeat("\u00e9", api.MaxWord+1)} {
		if got, from := l.Sounds(word); from != api.SourceNone || len(got) != 0 {
			t.Errorf("Sounds(%q): %v, %d", word, got, from)
		}
	}
}

// P10.5, R3
func TestOwn(t *testing.T) {
	l := wind(t)
	in := all("an")
	l.Add("a", in...)
	in[0].Phones[0].Rune = 'x'
	in[0].Stress[0] = 7
	z := phones("z")
	l.End("z", z...)
	z[0].Rune = 'x'
	text := l.Print()
	out, _ := l.Sounds("wind")
	out[0].Phones[0].Rune = 'x'
	out[1].Stress[0] = 9
	for _, s := range l.All() {
		s[0].Phones[0].Rune = 'x'
		s[0].Stress[0] = 0
	}
	if l.Print() != text || !strings.Contains(text, "a = an\n") || !strings.Contains(text, "-z = z\n") {
		t.Errorf("lists are shared: %q", l.Print())
	}
	c := l.Copy()
	l.Add("wind", spoken("x"))
	l.Add("b", spoken("x"))
	l.End("t", phones("t")...)
	l.Remove("a")
	if c.Print() != text || c.Len() != 2 {
		t.Errorf("a copy has changed: %q", c.Print())
	}
	c.Remove("wind")
	if !l.Has("wind") || l.Has("a") || l.Has("winds") || !l.Has("B") || l.Len() != 2 {
		t.Error("Has, Len")
	}
	var keys []string
	for k := range l.All() {
		keys = append(keys, k)
		l.Remove(k)
	}
	if !slices.Equal(keys, []string{"b", "wind"}) || l.Len() != 0 {
		t.Error("All while it is changed", keys)
	}
	for range c.All() {
		break
	}
}

// P10.5
func TestPrefix(t *testing.T) {
	l := lexicon.New(nil)
	for _, w := range []string{"b", "ab", "abc", "\u03b1", "\u03b2", "ac", "Ab'c"} {
		l.Add(w, spoken("a"))
	}
	for p, want := range map[string][]string{"": {"ab", "ab'c", "abc", "ac", "b", "\u03b1", "\u03b2"}, "\u00c0B": {"ab", "ab'c", "abc"}, "ab\u2019": {"ab'c"}, "\xce": {"\u03b1", "\u03b2"}, "x": nil, "abcd": nil} {
		if got := slices.Collect(l.Prefix(p)); !slices.Equal(got, want) {
			t.Errorf("Prefix(%q): %q", p, got)
		}
	}
	for range l.Prefix("") {
		break
	}
}

// P10.6
func TestText(t *testing.T) {
	l := wind(t)
	if got := l.Print(); got != "-s = z\nwind = w\u02c8ind, w\u02c8ai\u032fnd\n" {
		t.Errorf("Print: %q", got)
	}
	l.Add("kata", all("k,at'a\u02d0o", "kt", "kat,a")...)
	l.End("en", phones("\u0259n")...)
	if got := l.Print(); got != "-en = \u0259n\n-s = z\nkata = k\u02ccat\u02c8a\u02d0o, kt, kat\u02cca\nwind = w\u02c8ind, w\u02c8ai\u032fnd\n" {
		t.Errorf("Print: %q", got)
	}
	spot := func(e api.Errno, at int) api.Spot { return api.Spot{Err: e, At: at} }
	nine := "a = a, e, i, o, u, y, at, et"
	long := strings.Repeat("t", api.MaxPhones)
	for text, want := range map[string]api.Spot{
		"wind": spot(102, 0), "a b = a": spot(100, 0), "a = q": spot(101, 4), "a = a, a": spot(101, 7), "a = a\na = a": spot(102, 6), "-s = \na = \u02cca": spot(101, 5),
		"": {}, "\n\n": {}, "a = a": {}, "a = a\n": {}, "\na = a\n\nb = a": {}, "A = a\n\u00e0 = e": spot(102, 6), "a = a\n-a = a": {}, "-a = a\n-A = e": spot(102, 7), "a": spot(102, 0), "a= a": spot(102, 0), "a =a": spot(102, 0), " = a": spot(100, 0), "- = a": spot(100, 0), "-1 = a": spot(100, 0), "--a = a": spot(100, 0), "a = ": spot(101, 4), "a = a, ": spot(101, 7), "a = , a": spot(101, 4), "a = a,a": spot(101, 4), "a = a = e": spot(101, 4), "a  = a": spot(100, 0),
		"a = \u02c8": spot(101, 4), "a = a\u02c8": spot(101, 4), "a = \u02c8\u02cca": spot(101, 4), "a = \u02c8ta": spot(101, 4), "a = \u02c8a\u02c8a": spot(101, 4), "a = \u02cca\u02cca": {}, "a = t, \u02c8a\u02d0i\u032f": {}, "a = \u02c8\u02d0a": spot(101, 4), "a = t\r": spot(101, 4), "a = a.a": spot(101, 4),
		nine: {}, nine + ", it": spot(3, 28+2), nine + ", q": spot(3, 30), nine + ", ": spot(3, 30),
		"-a = \u02c8a": spot(101, 5), "-a = a, e": spot(101, 5), "-a = tttttttttttttttt": {}, "-a = ttttttttttttttttt": spot(101, 5), "-abcdefghijklmnop = t": {}, "-abcdefghijklmnopq = t": spot(100, 0),
		"a = " + long: {}, "a = " + long + "t": spot(101, 4), "a = " + strings.Repeat("a", 64): {}, "a = " + strings.Repeat("a", 65): spot(101, 4),
		strings.Repeat("\n", api.MaxText): {}, strings.Repeat("\n", api.MaxText) + "x": spot(3, api.MaxText), "x" + strings.Repeat("\n", api.MaxText): spot(3, api.MaxText), strings.Repeat("a", 64) + " = a": {}, strings.Repeat("a", 65) + " = a": spot(100, 0),
		"b = a\n\xff = a": spot(100, 6),
	} {
		if got, bad := lexicon.Read(text, nil); bad != want || (got == nil) != (bad.Err != api.OK) {
			t.Errorf("Read(%.60q): %v, want %v", text, bad, want)
		}
	}
}

// P10.6, P10.7: there and back.
func TestThereAndBack(t *testing.T) {
	r, _ := rule.Read("(a) > a\n(b) > b\n(c) > k")
	x := uint64(1)
	less := func(n int) int {
		x = x*6364136223846793005 + 1442695040888963407
		return int(x>>33) % n
	}
	words := []string{"a", "b", "ab", "\u00e9", "a'b", "Stra\u00dfe", "\u03a3\u03b1", "abc", "cab", "bc"}
	ways := all("a", "'a", ",a", "t", "at'o", ",at'o", "'ai\u032fta", "s\u02d0", "\u014b'\u0259\u02d0")
	for range 300 {
		l := lexicon.New(r)
		model := map[string][]api.Spoken{}
		for range less(12) {
			w, s := words[less(len(words))], ways[less(len(ways))]
			key := lexicon.Key(w)
			has := slices.ContainsFunc(model[key], func(y api.Spoken) bool { return same([]api.Spoken{s}, []api.Spoken{y}) })
			e := l.Add(w, s)
			if has != (e == api.ErrSpoken) || !has && e != api.OK {
				t.Fatal(w, s, e)
			}
			if !has {
				model[key] = append(model[key], s)
			}
			if less(6) == 0 {
				l.Remove(w)
				delete(model, key)
			}
			if less(4) == 0 {
				l.End([]string{"a", "b", "bc", "\u00e9", "c"}[less(5)], phones([]string{"z", "az"}[less(2)])...)
			}
		}
		again, bad := lexicon.Read(l.Print(), r)
		if bad.Err != api.OK || again.Print() != l.Print() {
			t.Fatalf("%q there and back: %q, %v", l.Print(), again.Print(), bad)
		}
		if l.Len() != len(model) {
			t.Fatal(l.Len(), model)
		}
		var keys []string
		for k, s := range l.All() {
			if !same(s, model[k]) {
				t.Fatalf("All: %q %v, want %v", k, s, model[k])
			}
			keys = append(keys, k)
		}
		if !slices.Equal(keys, slices.Sorted(maps.Keys(model))) || !slices.Equal(keys, slices.Collect(l.Prefix(""))) {
			t.Fatal(keys)
		}
		for _, w := range append(words, "abbc", "c", "ca", "abcb", "\u00e9a", "xx") {
			for _, w := range []string{w, class.UpperText(w), fold.Apart(w)} {
				a, f := l.Sounds(w)
				b, g := again.Sounds(w)
				if f != g || !same(a, b) || l.Has(w) != again.Has(w) || l.Has(w) != (f == api.SourceWord) {
					t.Fatalf("Sounds(%q): %v %d, %v %d", w, a, f, b, g)
				}
				s, e, ok := l.Stem(w)
				if ok && (s+e != lexicon.Key(w) || !l.Has(s)) || f == api.SourceEnding && !ok {
					t.Fatalf("Stem(%q): %q %q %v", w, s, e, ok)
				}
				for _, y := range a {
					if f != api.SourceRules && !lexicon.May(y) || f == api.SourceRules && len(y.Stress) > 0 {
						t.Fatalf("Sounds(%q): %v", w, y)
					}
				}
			}
		}
	}
}

// R4
func TestNil(t *testing.T) {
	var l *lexicon.Lexicon
	s, from := l.Sounds("a")
	a, b, ok := l.Stem("a")
	if l.Add("") != api.ErrNil || l.End("") != api.ErrNil || l.Remove("") != api.ErrNil || len(s) != 0 || from != api.SourceNone || a+b != "" || ok || l.Has("a") || l.Len() != 0 || l.Copy() != nil || l.Print() != "" {
		t.Error("a nil lexicon")
	}
	for range l.All() {
		t.Error("All of a nil lexicon")
	}
	for range l.Prefix("") {
		t.Error("Prefix of a nil lexicon")
	}
	if got := strconv.Itoa(lexicon.New(nil).Len()); got != "0" {
		t.Error(got)
	}
}
