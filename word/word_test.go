package word_test

import (
	"slices"
	"strings"
	"testing"

	"canticle/api"
	"canticle/class"
	"canticle/fold"
	"canticle/runes"
	"canticle/word"
)

func texts(yield func(string) bool) {
	bits := []string{"a", "B", "\u00e9", "\u0301", "\u0301", "'", "\u2019", "-", "\u2010", "\u2011", ",", ".", "1", "2", " ", " ", "\t", "\n", "\r", "\r\n", "!", "\xff", "\xc3", "\xa9", "\u4e2d", "\x00", "\u200d", "\ufffd", "\""}
	x := uint64(21)
	for range 6000 {
		s := ""
		for x = x*6364136223846793005 + 1442695040888963407; len(s) < int(x>>59); x = x*6364136223846793005 + 1442695040888963407 {
			s += bits[(x>>33)%uint64(len(bits))]
		}
		if !yield(s) {
			return
		}
	}
}

type unit struct {
	from, to int
	kind     api.Kind
	text     string
}

// units are those of the chapter.
func units(s string) []unit {
	var l []unit
	for p := range runes.Pieces(s) {
		kind := class.Of(p)
		if n := len(l); n > 0 && kind == api.KindMark && !slices.Contains([]api.Kind{api.KindBroken, api.KindBreak, api.KindControl}, l[n-1].kind) {
			l[n-1].to = p.At + p.Width
		} else {
			l = append(l, unit{from: p.At, to: p.At + p.Width, kind: kind})
		}
	}
	for i, u := range l {
		l[i].text = s[u.from:u.to]
	}
	return l
}

// tokens goes by the chapter's table.
func tokens(s string) []api.Token {
	var l []api.Token
	u := append(units(s), unit{kind: -1}, unit{kind: -1})
	for i := 0; u[i].kind >= 0; {
		k := i + 1
		kind := api.TokSign
		between := func(signs []string, kind api.Kind) {
			for u[k].kind == kind || slices.Contains(signs, u[k].text) && u[k+1].kind == kind {
				if u[k].kind != kind {
					k++
				}
				k++
			}
		}
		switch u[i].kind {
		case api.KindLetter:
			kind = api.TokWord
			between([]string{"'", "\u2019", "-", "\u2010"}, api.KindLetter)
		case api.KindDigit:
			kind = api.TokNumber
			between([]string{",", "."}, api.KindDigit)
		case api.KindBlank:
			kind = api.TokBlank
			between(nil, api.KindBlank)
		case api.KindBroken:
			kind = api.TokBroken
			between(nil, api.KindBroken)
		case api.KindBreak:
			kind = api.TokBreak
			if u[i].text == "\r" && u[k].text == "\n" {
				k++
			}
		case api.KindDash, api.KindQuote, api.KindPoint:
			kind = api.TokPoint
		}
		l = append(l, api.Token{Kind: kind, Span: api.Span{From: u[i].from, To: u[k-1].to}})
		i = k
	}
	return l
}

func words(s string) []api.Span {
	var l []api.Span
	for _, t := range tokens(s) {
		if t.Kind == api.TokWord {
			l = append(l, t.Span)
		}
	}
	return l
}

// P7.1, P7.5
func TestScan(t *testing.T) {
	for s := range texts {
		want := tokens(s)
		if got := slices.Collect(word.Scan(s)); !slices.Equal(got, want) {
			t.Fatalf("Scan(%q) = %v, want %v", s, got, want)
		}
		if got := slices.Collect(word.Words(s)); !slices.Equal(got, words(s)) {
			t.Fatalf("Words(%q) = %v, want %v", s, got, words(s))
		}
		if n, k := word.Count(s); n != len(want) || k != len(words(s)) {
			t.Fatalf("Count(%q) = %d, %d", s, n, k)
		}
		for i, x := range want {
			own := s[x.Span.From:x.Span.To]
			if l := slices.Collect(word.Scan(own)); len(l) != 1 || l[0].Kind != x.Kind {
				t.Fatalf("the token %q of %q alone: %v", own, s, l)
			}
			if i > 0 && x.Kind == want[i-1].Kind && (x.Kind == api.TokBlank || x.Kind == api.TokBroken) {
				t.Fatalf("two such tokens in %q", s)
			}
			at := x.Span.From
			l := slices.Collect(word.Scan(s[:at]))
			for y := range word.Scan(s[at:]) {
				l = append(l, api.Token{Kind: y.Kind, Span: api.Span{From: y.Span.From + at, To: y.Span.To + at}})
			}
			if !slices.Equal(l, want) {
				t.Fatalf("%q parted at %d: %v", s, at, l)
			}
			if x.Kind == api.TokWord {
				for p := range runes.Pieces(fold.Fold(own)) {
					if class.Of(p) == api.KindMark || class.Great(p.Rune) {
						t.Fatalf("folded word %q of %q", own, s)
					}
				}
			}
		}
	}
	n := 0
	for range word.Scan("a b") {
		n++
		break
	}
	for range word.Words("a b") {
		n++
		break
	}
	for range word.Scan("a") {
		n++
		break
	}
	for range word.Scan("a'") {
		n++
		break
	}
	if n != 4 {
		t.Error("left early:", n)
	}
}

// P7.2
func TestPlaces(t *testing.T) {
	for s := range texts {
		all, w := tokens(s), words(s)
		for at := -2; at <= len(s)+2; at++ {
			var tok api.Token
			var next, last api.Span
			edge := false
			for _, x := range all {
				if at >= x.Span.From && at < x.Span.To {
					tok = x
				}
				edge = edge || at == x.Span.From || at == x.Span.To
			}
			for _, x := range w {
				if x.To <= at {
					last = x
				}
			}
			for _, x := range slices.Backward(w) {
				if x.From >= at {
					next = x
				}
			}
			if got, e := word.At(s, at); got != tok || (e == api.OK) != (tok.Kind > 0) || e != api.OK && e != api.ErrRange {
				t.Fatalf("At(%q, %d) = %v, %v", s, at, got, e)
			}
			if got, ok := word.Next(s, at); got != next || ok != (next.To > 0) {
				t.Fatalf("Next(%q, %d) = %v, %v", s, at, got, ok)
			}
			if got, ok := word.Last(s, at); got != last || ok != (last.To > 0) {
				t.Fatalf("Last(%q, %d) = %v, %v", s, at, got, ok)
			}
			if word.Edge(s, at) != edge {
				t.Fatalf("Edge(%q, %d) = %v", s, at, !edge)
			}
			if edge && !runes.Boundary(s, at) {
				t.Fatalf("an edge of %q at %d", s, at)
			}
		}
		for k := -1; k <= len(w); k++ {
			var want api.Span
			is := k >= 0 && k < len(w)
			if is {
				want = w[k]
			}
			if got, ok := word.Nth(s, k); got != want || ok != is {
				t.Fatalf("Nth(%q, %d) = %v, %v", s, k, got, ok)
			}
			put, e := word.Put(s, k, "\xff x")
			if !is && (put != "" || e != api.ErrNone) || is && (e != api.OK || put != s[:want.From]+"\xff x"+s[want.To:]) {
				t.Fatalf("Put(%q, %d) = %q, %v", s, k, put, e)
			}
		}
	}
	for _, at := range []int{-1 << 63, 1<<63 - 1} {
		_, a := word.At("a", at)
		_, b := word.Next("a", at)
		_, c := word.Last("a", at)
		_, d := word.Nth("a", at)
		_, e := word.Put("a", at, "")
		if a != api.ErrRange || b != (at < 0) || c != (at > 0) || d || e != api.ErrNone || word.Edge("a", at) {
			t.Error(at, a, b, c, d, e)
		}
	}
}

// P7.3
func TestIs(t *testing.T) {
	for s := range texts {
		all := tokens(s)
		is := len(all) == 1 && all[0].Kind == api.TokWord
		if word.Is(s) != is {
			t.Fatalf("Is(%q) = %v", s, !is)
		}
		var want []api.Span
		for _, u := range units(s) {
			switch {
			case u.kind != api.KindLetter:
				want = append(want, api.Span{})
			case len(want) == 0 || want[len(want)-1] == (api.Span{}):
				want = append(want, api.Span{From: u.from, To: u.to})
			default:
				want[len(want)-1].To = u.to
			}
		}
		want = slices.DeleteFunc(want, func(x api.Span) bool { return x == api.Span{} })
		got, e := word.Parts(s)
		if !is && (e != api.ErrArg || len(got) > 0) || is && (e != api.OK || !slices.Equal(got, want)) {
			t.Fatalf("Parts(%q) = %v, %v, want %v", s, got, e, want)
		}
		for _, x := range all {
			if own := s[x.Span.From:x.Span.To]; word.Is(own) != (x.Kind == api.TokWord) {
				t.Fatalf("Is(%q)", own)
			}
		}
	}
	if l, e := word.Parts("d\u00e9j\u00e0-vu\u2019s"); e != api.OK || !slices.Equal(l, []api.Span{{From: 0, To: 6}, {From: 7, To: 9}, {From: 12, To: 13}}) {
		t.Error(l, e)
	}
	if word.Is("") || word.Is("don't ") || !word.Is("don't") {
		t.Error("Is")
	}
}

// P7.4
func TestChanged(t *testing.T) {
	for s := range texts {
		l := slices.DeleteFunc(tokens(s), func(x api.Token) bool { return x.Kind == api.TokBlank || x.Kind == api.TokBreak })
		want := ""
		if len(l) > 0 {
			want = s[l[0].Span.From:l[len(l)-1].Span.To]
		}
		if got := word.Trim(s); got != want || word.Trim(got) != got {
			t.Fatalf("Trim(%q) = %q, want %q", s, got, want)
		}
		var w []string
		for _, x := range words(s) {
			w = append(w, s[x.From:x.To])
		}
		want = strings.Join(w, " ")
		if got := word.Plain(s); got != want || word.Plain(got) != got {
			t.Fatalf("Plain(%q) = %q, want %q", s, got, want)
		}
	}
}

// The examples of the chapter.
func TestExamples(t *testing.T) {
	kinds := func(s string) string {
		text := ""
		for x := range word.Scan(s) {
			text += string("-WNBLPSX"[x.Kind]) + s[x.Span.From:x.Span.To] + "|"
		}
		return text
	}
	for s, want := range map[string]string{
		"Don't go, 3.50!":      "WDon't|B |Wgo|P,|B |N3.50|P!|",
		"mother-in-law's":      "Wmother-in-law's|",
		"'tis":                 "P'|Wtis|",
		"a--b":                 "Wa|P-|P-|Wb|",
		"rock'":                "Wrock|P'|",
		"e\u0301 \u0301x":      "We\u0301|B \u0301|Wx|",
		"\u0301\u0302a":        "S\u0301\u0302|Wa|",
		"\r\n\n":               "L\r\n|L\n|",
		"\n\u0301":             "L\n|S\u0301|",
		"a\xff\xfeb":           "Wa|X\xff\xfe|Wb|",
		"1.a":                  "N1|P.|Wa|",
		"1.2.3":                "N1.2.3|",
		"a'\u0301b":            "Wa|P'\u0301|Wb|",
		"1,\u03012":            "N1|P,\u0301|N2|",
		"a1":                   "Wa|N1|",
		"1..2":                 "N1|P.|P.|N2|",
		"\r\r\n\n\r":           "L\r|L\r\n|L\n|L\r|",
		"\xff\u0301\xff":       "X\xff|S\u0301|X\xff|",
		"\u200d\u0301a\u0301'": "S\u200d|S\u0301|Wa\u0301|P'|",
	} {
		if got := kinds(s); got != want {
			t.Errorf("Scan(%q) = %q, want %q", s, got, want)
		}
	}
	if got := word.Plain("Oh, it's 5 o'clock!"); got != "Oh it's o'clock" {
		t.Errorf("Plain = %q", got)
	}
	if got := word.Trim(" a, b\n"); got != "a, b" {
		t.Errorf("Trim = %q", got)
	}
}

// Long texts are gone through in time.
func TestLong(t *testing.T) {
	if n, k := word.Count(strings.Repeat("a'", 1<<15)); n != 2 || k != 1 {
		t.Error(n, k)
	}
	if n, k := word.Count(strings.Repeat("a ", 1<<15)); n != 1<<16 || k != 1<<15 {
		t.Error(n, k)
	}
}
