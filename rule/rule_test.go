package rule_test

import (
	"regexp"
	"slices"
	"strings"
	"testing"

	"canticle/api"
	"canticle/class"
	"canticle/phone"
	"canticle/rule"
	"canticle/runes"
)

type chance uint64

func (c *chance) less(n int) int {
	*c = *c*6364136223846793005 + 1442695040888963407
	return int(uint64(*c)>>33) % n
}

func (c *chance) of(l ...string) string { return l[c.less(len(l))] }

// example is R of the chapter.
var example = strings.Join(strings.Split("V = aeiouy;E = eiy;(ch) > \u02a7;#(kn) > n;(c)E > s;(c) > k;V(s)V > z;(s) > s;(e)# >;(a) > a;(e) > e;(i) > i;(o) > o;(k) > k;(n) > n;(t) > t", ";"), "\n")

func read(t *testing.T, text string) *rule.Rules {
	t.Helper()
	r, bad := rule.Read(text)
	if bad != (api.Spot{}) || r == nil {
		t.Fatalf("Read(%q): %v", text, bad)
	}
	return r
}

// said tells a word's sounds as a text: the letters, the rule, the phones.
func said(t *testing.T, r *rule.Rules, word string) string {
	t.Helper()
	l, e := r.Sounds(word)
	if e != api.OK {
		t.Fatalf("Sounds(%q): %v", word, e)
	}
	text := ""
	for _, x := range l {
		p, _ := phone.Print(x.Phones)
		text += word[x.From:x.To] + string(rune('0'+x.Rule)) + p + " "
	}
	return text
}

// The examples of the chapter.
func TestExamples(t *testing.T) {
	r := read(t, example)
	if r.Len() != 14 {
		t.Error("Len", r.Len())
	}
	if s, e := r.Rule(2); s != "#(kn) > n" || e != api.OK {
		t.Errorf("Rule(2): %q, %v", s, e)
	}
	for _, k := range []int{0, -1, 15, 1 << 62} {
		if s, e := r.Rule(k); s != "" || e != api.ErrRange {
			t.Errorf("Rule(%d): %q, %v", k, s, e)
		}
	}
	for word, want := range map[string]string{"chose": "ch1\u02a7 o;o s5z e7 ", "KNIT": "KN2n I:i T>t ", "acne": "a8a c4k n=n e7 ", "cx\xe9": "c4k x0 \xe90 ", "": ""} {
		if got := said(t, r, word); got != want {
			t.Errorf("Sounds(%q): %q, want %q", word, got, want)
		}
	}
	for at, want := range map[int]int{0: 6, 1: 9, 3: 6} {
		if n, e := r.Fits("sees", at); n != want || e != api.OK {
			t.Errorf("Fits(sees, %d): %d, %v", at, n, e)
		}
	}
	for _, at := range []int{4, 5, -1, -1 << 63, 1<<63 - 1} {
		if n, e := r.Fits("sees", at); n != 0 || e != api.ErrRange {
			t.Errorf("Fits(sees, %d): %d, %v", at, n, e)
		}
	}
	if n, e := r.Fits("\u00e9a", 1); n != 0 || e != api.ErrRange {
		t.Error("Fits within a form", n, e)
	}
	if !r.Covers(4, 3) || r.Covers(3, 4) || r.Covers(0, 1) || r.Covers(1, 0) || r.Covers(15, 1) || r.Covers(1, -1<<63) {
		t.Error("Covers")
	}
	if l := read(t, example+"\n(cha) > a").Dead(); !slices.Equal(l, []int{15}) {
		t.Error("Dead", l)
	}
}

// P9.1: what is wrong, at which byte.
func TestWrong(t *testing.T) {
	spot := func(e api.Errno, at int) api.Spot { return api.Spot{Err: e, At: at} }
	many := strings.Repeat("(a) >\n", api.MaxRules)
	sixty4 := strings.Repeat("a", api.MaxWord)
	long := strings.Repeat("a", api.MaxPhones)
	for text, want := range map[string]api.Spot{
		"(a)b": spot(90, 4), "(a) >x": spot(90, 5), "V = a\nV = b": spot(91, 6), "V(a) >": spot(92, 0), "() >": spot(90, 1), "(A) >": spot(90, 1), "(a) > q": spot(80, 6), "a# (b) > b": spot(90, 1), "(b)#a > b": spot(90, 4),
		"": {}, "\n\n": {}, "; anything \xff": {}, ";": {}, " ": spot(90, 0), "(a) > ": spot(90, 6), "(a) >": {}, "(a) >\n\n(b) >": {}, "(a) ": spot(90, 4), "(a": spot(90, 2), "a": spot(90, 1), "(a)": spot(90, 3), "#": spot(90, 1), "##(a) >": spot(90, 1), "(a)## >": spot(90, 4), "(#a) >": spot(90, 1), "(a)# >": {}, "#(a)# > a": {},
		"V": spot(92, 0), "V ": spot(90, 2), "V =": spot(90, 3), "V = ": spot(90, 4), "V = A": spot(90, 4), "V = a b": spot(90, 5), "V x": spot(90, 2), "V=a": spot(92, 0), "V = a\nVx": spot(90, 8), "V = a\nV x": spot(91, 6), "V = a\nW(b) >": spot(92, 6), "V(b) >\nV = a": spot(92, 0), "V = a\n(b)W >": spot(92, 9), "V = a\n(b)V(": spot(90, 10), "V = a\n(b)W(": spot(92, 9), "V = \xff-'7\u0301": {}, "v = a": spot(90, 1),
		"\u00c9(a) >": spot(90, 0), "(\u00c9) >": spot(90, 1), "(\u00e9) >": {}, "(.) >": spot(90, 1), "(a)\r >": spot(90, 3), "(a) > a\r": spot(80, 7), "(a) > a\xff": spot(80, 7), "(a) > b\n(a) > q": spot(80, 14), "(\xff\u0301-\u2019\u20103) >": {}, "(\u1ebf) >": spot(90, 1), "(\ufffd) >": spot(90, 1), "\x00": spot(90, 0),
		many: {}, many + "(a) >": spot(3, len(many)), many + "V = a": {}, many + "; x": {}, many + "V(a) >": spot(92, len(many)), many + ")": spot(90, len(many)), many + "aV(a) >": spot(3, len(many)), many + "a": spot(3, len(many)), many + "(a) > q": spot(3, len(many)),
		"(" + sixty4 + ") >": {}, "(" + sixty4 + "a) >": spot(3, 65), "(" + sixty4 + "A) >": spot(90, 65), "(" + sixty4 + "aA) >": spot(3, 65),
		sixty4 + "(a) >": {}, sixty4 + "a(a) >": spot(3, 64), sixty4 + "V(a) >": spot(92, 64), "#" + sixty4 + "(a)" + sixty4 + "# >": {}, "#" + sixty4 + "a(a) >": spot(3, 65), "(a)" + sixty4 + "a": spot(3, 67),
		"V = " + sixty4: {}, "V = " + sixty4 + "a": spot(3, 68), "V = " + sixty4 + " ": spot(90, 68),
		"V = a\n" + sixty4 + "V(a) >": spot(3, 70), "V = a\n" + strings.Repeat("V", 64) + "(a) >": {},
		"(a) > " + long: {}, "(a) > " + long + "a": spot(3, 6+api.MaxPhones), "(a) > " + long + "q": spot(80, 6+api.MaxPhones),
		strings.Repeat(";", api.MaxText): {}, strings.Repeat(";", api.MaxText) + "(": spot(3, api.MaxText), "(" + strings.Repeat(";", api.MaxText): spot(3, api.MaxText),
	} {
		if r, bad := rule.Read(text); bad != want || (r == nil) != (bad.Err != api.OK) {
			t.Errorf("Read(%.80q): %v, want %v", text, bad, want)
		}
	}
}

// kinds says of each piece of a line what the grammar calls it.
func kinds(line string) (string, []int) {
	text := ""
	var at []int
	for p := range runes.Pieces(line) {
		k := class.Of(p)
		switch x := line[p.At : p.At+p.Width]; {
		case strings.Contains("#()>= ", x):
			text += x
		case x >= "A" && x <= "Z" && len(x) == 1:
			text += "N"
		case k == api.KindBroken || slices.Contains([]api.Kind{api.KindLetter, api.KindMark, api.KindDigit, api.KindDash, api.KindQuote}, k) && class.LowerText(x) == x:
			text += "p"
		default:
			text += "x"
		}
		at = append(at, p.At)
	}
	return text, append(at, len(line))
}

var (
	ruleLine   = regexp.MustCompile(`^#?[pN]*\(p+\)[pN]*#? >( .+)?$`)
	ruleBegins = regexp.MustCompile(`^#?[pN]*(\((p+(\)([pN]*#?( (>( .*)?)?)?)?)?)?)?$`)
	classLine  = regexp.MustCompile(`^N = p+$`)
	classGoes  = regexp.MustCompile(`^N( (=( p*)?)?)?$`)
)

// wrong is the first thing that is wrong with a text, as the chapter lists it (no text here is long).
func wrong(text string) api.Spot {
	said := map[string]bool{}
	from := 0
	for _, line := range strings.SplitAfter(text, "\n") {
		body := strings.TrimSuffix(line, "\n")
		start := from
		from += len(line)
		if body == "" || body[0] == ';' {
			continue
		}
		k, at := kinds(body)
		whole, begins, isClass := ruleLine, ruleBegins, strings.HasPrefix(k, "N ")
		if isClass {
			whole, begins = classLine, classGoes
		}
		bad := api.Spot{At: len(body) + 1}
		found := func(e api.Errno, at int) {
			if at < bad.At {
				bad = api.Spot{Err: e, At: at}
			}
		}
		for n := 1; n <= len(k); n++ {
			if !begins.MatchString(k[:n]) {
				found(api.ErrRule, at[n-1])
				break
			}
		}
		if !whole.MatchString(k) {
			found(api.ErrRule, len(body))
		}
		if isClass {
			if said[body[:1]] {
				found(api.ErrTwice, 0)
			}
			said[body[:1]] = true
		}
		phones := strings.Index(body, " > ")
		for n, x := range k {
			if !isClass && x == 'N' && (phones < 0 || at[n] < phones) && !said[body[at[n]:at[n]+1]] {
				found(api.ErrClass, at[n])
			}
		}
		if !isClass && phones >= 0 && whole.MatchString(k) {
			if _, x := phone.Read(body[phones+3:]); x.Err != api.OK {
				found(x.Err, phones+3+x.At)
			}
		}
		if bad.Err != api.OK {
			bad.At += start
			return bad
		}
	}
	return api.Spot{}
}

// P9.1: many texts.
func TestRead(t *testing.T) {
	c := chance(4)
	good := 0
	for range 30000 {
		text := ""
		for range 1 + c.less(3) {
			switch c.less(6) {
			case 0:
				text += c.of("V", "W") + c.of(" = ", " = ", " =", " ") + c.of("a", "ab", "\xff", "", "A")
			case 1:
				for range c.less(9) {
					text += c.of("a", "#", "(", ")", " ", ">", "V", "=", "\xff", "\u00e9", "B", ";", ".")
				}
			default:
				text += c.of("", "#", "a", "V", "W", " ") + c.of("(", "(", "(", "") + c.of("a", "ab", "", "V") + c.of(")", ")", ")", "") + c.of("", "", "#", "W", "V") + c.of("", "", "#", "a") + c.of(" >", " >", " >", " ", "") + c.of("", " a", " a", " q", " ", "a")
			}
			text += c.of("\n", "\n", "\n", "", "\n\n")
		}
		want := wrong(text)
		r, bad := rule.Read(text)
		if bad != want || (r == nil) != (bad.Err != api.OK) {
			t.Fatalf("Read(%q): %v, want %v", text, bad, want)
		}
		if bad.Err == api.OK {
			good++
			again := read(t, r.Print())
			if again.Print() != r.Print() {
				t.Fatalf("%q there and back: %q", r.Print(), again.Print())
			}
		}
	}
	if good < 1000 {
		t.Error("right ones:", good)
	}
}

// P9.2
func TestPrint(t *testing.T) {
	r := read(t, "; first\nZ = ab\n\n(a)Z > t\nB = c\xff\n#(b)# >\n")
	want := "B = c\xff\nZ = ab\n(a)Z > t\n#(b)# >\n"
	if got := r.Print(); got != want {
		t.Errorf("Print: %q", got)
	}
	if got := read(t, "").Print(); got != "" {
		t.Errorf("Print of none: %q", got)
	}
	for k := 1; k <= r.Len(); k++ {
		if s, e := r.Rule(k); e != api.OK || !strings.Contains(want, "\n"+s+"\n") {
			t.Errorf("Rule(%d): %q, %v", k, s, e)
		}
	}
}

// law is a rule, as it was made by chance; a class's name stands for its pieces.
type law struct {
	first, last       bool
	left, body, right []string
	phones            string
}

func (l law) text() string {
	s := strings.Join(l.left, "") + "(" + strings.Join(l.body, "") + ")" + strings.Join(l.right, "")
	if l.first {
		s = "#" + s
	}
	if l.last {
		s += "#"
	}
	if s += " >"; l.phones != "" {
		s += " " + l.phones
	}
	return s
}

var classes = map[string][]string{"V": {"a", "e"}, "W": {"a", "e", "\xff"}, "X": {"a"}}

func (c *chance) law() law {
	some := func(n int, l ...string) []string {
		var out []string
		for range n {
			out = append(out, c.of(l...))
		}
		return out
	}
	return law{first: c.less(5) == 0, last: c.less(5) == 0, left: some(c.less(3), "a", "e", "V", "W", "X", "\xff"), body: some(1+c.less(2), "a", "e", "t", "\xff"), right: some(c.less(3), "a", "e", "V", "W", "X", "\xff"), phones: c.of("", "a", "to", "s\u02d0")}
}

func pieces(word string) []string {
	var l []string
	for p := range runes.Pieces(word) {
		x := word[p.At : p.At+p.Width]
		if !p.Broken {
			x = string(class.Lower(p.Rune))
		}
		l = append(l, x)
	}
	return l
}

func is(piece, said string) bool {
	if l, ok := classes[said]; ok {
		return slices.Contains(l, piece)
	}
	return piece == said
}

// fits tells whether a rule fits at the k-th piece of a word, with a sign for the word's ends.
func (l law) fits(word []string, k int) bool {
	row := slices.Concat(l.left, l.body, l.right)
	at := k - len(l.left)
	if l.first {
		row, at = slices.Concat([]string{"#"}, row), at-1
	}
	if l.last {
		row = append(row, "#")
	}
	at++
	framed := slices.Concat([]string{"#"}, word, []string{"#"})
	for i, x := range row {
		if at+i < 0 || at+i >= len(framed) || !is(framed[at+i], x) {
			return false
		}
	}
	return true
}

// P9.3, P9.4, P9.6 to P9.9
func TestSounds(t *testing.T) {
	c := chance(5)
	head := "V = ae\nW = ae\xff\nX = aa\n"
	for range 3000 {
		text := head
		var laws []law
		for range 1 + c.less(6) {
			l := c.law()
			laws, text = append(laws, l), text+l.text()+"\n"
		}
		r := read(t, text)
		again := read(t, r.Print())
		dead := r.Dead()
		for range 4 {
			word := ""
			for range c.less(7) {
				word += c.of("a", "e", "t", "A", "E", "\xff", "\xfe", "x")
			}
			p := pieces(word)
			var at []int
			for q := range runes.Pieces(word) {
				at = append(at, q.At)
			}
			at = append(at, len(word))
			var want []api.Sound
			var all []api.Phone
			for k := 0; k < len(p); {
				x := api.Sound{Span: api.Span{From: at[k], To: at[k+1]}}
				n := 1
				for i, l := range laws {
					if l.fits(p, k) {
						x.Rule, n = i+1, len(l.body)
						x.Phones, _ = phone.Read(l.phones)
						break
					}
				}
				if got, e := r.Fits(word, at[k]); got != x.Rule || e != api.OK {
					t.Fatalf("%q: Fits(%q, %d): %d, %v, want %d", text, word, at[k], got, e, x.Rule)
				}
				if slices.Contains(dead, x.Rule) {
					t.Fatalf("%q: the dead rule %d in %q", text, x.Rule, word)
				}
				k += n
				x.To = at[k]
				want, all = append(want, x), append(all, x.Phones...)
			}
			same := func(a, b api.Sound) bool {
				return a.Span == b.Span && a.Rule == b.Rule && slices.Equal(a.Phones, b.Phones)
			}
			for _, y := range []*rule.Rules{r, again} {
				if got, e := y.Sounds(word); e != api.OK || !slices.EqualFunc(got, want, same) {
					t.Fatalf("%q: Sounds(%q): %v, %v, want %v", text, word, got, e, want)
				}
				if got, e := y.Phones(word); e != api.OK || !slices.Equal(got, all) {
					t.Fatalf("%q: Phones(%q): %v, %v", text, word, got, e)
				}
			}
			if up, e := r.Phones(class.UpperText(word)); e != api.OK || !slices.Equal(up, all) {
				t.Fatalf("%q: Phones of %q in great letters", text, word)
			}
			for i := range laws {
				for j := range laws {
					for k := range p {
						if r.Covers(i+1, j+1) && laws[j].fits(p, k) && !laws[i].fits(p, k) {
							t.Fatalf("%q: %d covers %d, and does not fit in %q", text, i+1, j+1, word)
						}
					}
				}
			}
		}
		var want []int
		for j := range laws {
			for i := range laws {
				if r.Covers(i+1, j+1) != covers(laws[i], laws[j]) {
					t.Fatalf("%q: Covers(%d, %d)", text, i+1, j+1)
				}
				if i < j && covers(laws[i], laws[j]) && !slices.Contains(want, j+1) {
					want = append(want, j+1)
				}
			}
		}
		if !slices.Equal(dead, want) {
			t.Fatalf("%q: Dead %v, want %v", text, dead, want)
		}
	}
}

// covers is what the chapter says of covering.
func covers(a, b law) bool {
	if len(a.body) > len(b.body) || !slices.Equal(a.body, b.body[:len(a.body)]) {
		return false
	}
	holds := func(x, y string) bool {
		l, ok := classes[y]
		if !ok {
			l = []string{y}
		}
		return !slices.ContainsFunc(l, func(p string) bool { return !is(p, x) })
	}
	side := func(a, b []string, aEnds, bEnds bool) bool {
		if len(a) > len(b) || aEnds && (!bEnds || len(a) != len(b)) {
			return false
		}
		for i := range a {
			if !holds(a[i], b[i]) {
				return false
			}
		}
		return true
	}
	turned := func(l []string) []string {
		l = slices.Clone(l)
		slices.Reverse(l)
		return l
	}
	return side(turned(a.left), turned(b.left), a.first, b.first) && side(a.right, slices.Concat(b.body[len(a.body):], b.right), a.last, b.last)
}

// P9.3, P9.4: limits, and R4.
func TestLimits(t *testing.T) {
	r := read(t, "(a) > a\u02d0a\u02d0a")
	word := strings.Repeat("\xff", api.MaxWord)
	if l, e := r.Sounds(word); len(l) != api.MaxWord || e != api.OK {
		t.Error("at the limit", e)
	}
	if n, e := r.Fits(word, 63); n != 0 || e != api.OK {
		t.Error("Fits at the limit", n, e)
	}
	if l, e := r.Sounds(word + "a"); len(l) != 0 || e != api.ErrLong {
		t.Error("Sounds of a long word", e)
	}
	if l, e := r.Phones(word + "a"); len(l) != 0 || e != api.ErrLong {
		t.Error("Phones of a long word", e)
	}
	if n, e := r.Fits(word+"a", 99); n != 0 || e != api.ErrLong {
		t.Error("Fits in a long word", n, e)
	}
	if l, e := r.Phones(strings.Repeat("a", 42)); len(l) != 126 || e != api.OK {
		t.Error("many phones", len(l), e)
	}
	if l, e := r.Sounds(strings.Repeat("a", 43)); len(l) != 0 || e != api.ErrLong {
		t.Error("too many phones", len(l), e)
	}
	two := read(t, "(a) > ab")
	if l, e := two.Phones(strings.Repeat("a", 64)); len(l) != 128 || e != api.OK {
		t.Error("as many phones as go", len(l), e)
	}
	var none *rule.Rules
	_, a := none.Rule(1)
	_, b := none.Fits("a", 9)
	_, c := none.Sounds("a")
	_, d := none.Phones("a")
	if a != api.ErrNil || b != api.ErrNil || c != api.ErrNil || d != api.ErrNil || none.Print() != "" || none.Len() != 0 || none.Covers(1, 1) || len(none.Dead()) != 0 {
		t.Error("nil rules", a, b, c, d)
	}
	l, _ := two.Sounds("aa")
	l[0].Phones[0] = api.Phone{}
	if got, _ := two.Phones("a"); got[0].Rune != 'a' || l[1].Phones[0].Rune != 'a' {
		t.Error("lists are shared")
	}
}
