package house_test

import (
	"math"
	"slices"
	"strconv"
	"strings"
	"testing"
	"time"

	"canticle/api"
	"canticle/class"
	"canticle/house"
	"canticle/poem"
	"canticle/runes"
)

type chance uint64

func (c *chance) less(n int) int {
	*c = *c*6364136223846793005 + 1442695040888963407
	return int(uint64(*c)>>33) % n
}

func (c *chance) of(l ...string) string { return l[c.less(len(l))] }

// quote is what the chapter says of quoting, piece by piece.
func quote(s string) string {
	out := `"`
	for p := range runes.Pieces(s) {
		x := s[p.At : p.At+p.Width]
		switch k := class.Of(p); {
		case x == `"` || x == `\`:
			out += `\` + x
		case x == "\n":
			out += `\n`
		case k == api.KindBroken || k == api.KindBreak || k == api.KindControl:
			for i := range len(x) {
				out += `\x` + string("0123456789abcdef"[x[i]>>4]) + string("0123456789abcdef"[x[i]&15])
			}
		default:
			out += x
		}
	}
	return out + `"`
}

// P32.1, P32.2, P32.7
func TestQuote(t *testing.T) {
	for r := rune(0); r < 0x3100; r++ {
		if s := string(r); house.Quote(s) != quote(s) {
			t.Errorf("Quote(%q): %q", s, house.Quote(s))
		}
	}
	c := chance(1)
	for range 10000 {
		var l, q []string
		for range c.less(4) {
			s := ""
			for range c.less(6) {
				s += c.of("a", `"`, `\`, "\n", "\r", "\xff", "\xc3", "\xa9", "\u00e9", "\u0085", "\u200b", "\ufeff", "\ufffd", "\t", " ", "\x00", "x", "n", "\xef\xbf")
			}
			if got := house.Quote(s); got != quote(s) {
				t.Fatalf("Quote(%q): %q, want %q", s, got, quote(s))
			}
			if got, ok := house.Unquote(house.Quote(s)); got != s || !ok {
				t.Fatalf("Unquote of Quote(%q): %q, %v", s, got, ok)
			}
			l, q = append(l, s), append(q, house.Quote(s))
		}
		line := c.of("", " ") + strings.Join(q, c.of(" ", "  ")) + c.of("", " ")
		if got, e := house.Words(line); e != api.OK || !slices.Equal(got, l) {
			t.Fatalf("Words(%q): %q, %v, want %q", line, got, e, l)
		}
	}
	for s, want := range map[string]string{`""`: "", `"a\x41\xff"`: "aA\xff", "\"\x01\r\xff\"": "\x01\r\xff", `"\\n"`: `\n`, `"\n\""`: "\n\""} {
		if got, ok := house.Unquote(s); got != want || !ok {
			t.Errorf("Unquote(%q): %q, %v", s, got, ok)
		}
	}
	for _, s := range []string{"", `"`, `a`, `"a`, `a"`, `"a"b"`, `"\"`, `"\q"`, `"\x4"`, `"\xFF"`, `"\x4g"`, "\"\n\"", `"\`, `"\x"`, `'a'`, `"a" `, `"\N"`} {
		if got, ok := house.Unquote(s); got != "" || ok {
			t.Errorf("Unquote(%q): %q, %v", s, got, ok)
		}
	}
	for line, want := range map[string][]string{"": nil, "   ": nil, "a b": {"a", "b"}, ` a"b  "c d" `: {`a"b`, "c d"}, `"" ""`: {"", ""}, "a\tb": {"a\tb"}, `"\"" x`: {`"`, "x"}, `"\\" x`: {`\`, "x"}, `\"a b"`: {`\"a`, `b"`}} {
		if got, e := house.Words(line); e != api.OK || !slices.Equal(got, want) {
			t.Errorf("Words(%q): %q, %v", line, got, e)
		}
	}
	for _, line := range []string{`"`, `"a`, `a "b`, `"a"b`, `"a""b"`, `"\"`, `"\q"`, "\"a\nb\"", `"a\`, "\"a\"\t"} {
		if got, e := house.Words(line); e != api.ErrWords || len(got) > 0 {
			t.Errorf("Words(%q): %q, %v", line, got, e)
		}
	}
}

// does does lines one by one; each is answered as is said.
func does(t *testing.T, h *house.House, l ...string) {
	t.Helper()
	for k := 0; k < len(l); k += 2 {
		line, lines, _ := strings.Cut(l[k], "\n")
		got, e := h.Do(line, lines)
		if got != l[k+1] || e != api.OK {
			t.Errorf("%q: %s, %v, want %s", l[k], got, e, l[k+1])
		}
	}
}

func float(x float64) string { return strconv.FormatUint(math.Float64bits(x), 16) }

const sounds = "lexicon\nthe = \u00f0\u0259, \u00f0i\nrose = r\u02c8oz\narose = \u0259r\u02c8oz\nred = r\u02c8ed\nday = d\u02c8e\u02d0\nof = \u02c8ov\nlily = l\u02c8ili\n-s = z\n"

// P32.4, P32.5: poems, words, sounds.
func TestPoems(t *testing.T) {
	h := house.New()
	does(t, h,
		"names", "", "poem a\nthe rose\nthe rose red\n", "2 1", "show a", `"the rose\nthe rose red\n"`, "line a 1", `"the rose red" 0 0 1`, "line a 2", "error 5", "line a -1", "error 5",
		`poem "b c"`+"\n# T\n\n  x\xff \n\ny", "2 2", `show "b c"`, `"# T\n\n  x\xff \n\ny\n"`, `line "b c" 0`, `"x\xff " 2 0 0`, "names", `"a" "b c"`,
		"drop b", "error 4", "show b", "error 4", "line b 0", "error 4", "show", "error 321", "show a b", "error 321", "fly", "error 321", "line a x", "error 2", "line a 01", "error 2", "line a +1", "error 2", `line "a" "1"`, `"the rose red" 0 0 1`, "line a 999999999999999999", "error 5", "line a 1000000000000000000", "error 2", `"show" "a`, "error 320", `"show" a`, `"the rose\nthe rose red\n"`, `show ""`, "error 2", "show "+strings.Repeat("x", 64), "error 4", "show "+strings.Repeat("x", 65), "error 2", "line "+strings.Repeat("x", 65)+" x", "error 2",
		"", "", "   ", "", "# anything \"", "", "#", "", " #", "error 321", ".", "error 321",
		"poem a\none\n", "1 1", "names", `"a" "b c"`, "drop a", "1", "names", `"b c"`, "poem a\n"+strings.Repeat("a\n", 513), "error 3 1024", "poem a\n"+strings.Repeat(" ", api.MaxText)+"x", "error 3", "show a", "error 4", "poem a\n"+strings.Repeat("x", 1025), "error 3 1024",
	)
	if got := h.Poems(); !slices.Equal(got, []string{"b c"}) {
		t.Error(got)
	}
	if s, e := h.Poem("b c"); s != "# T\n\n  x\xff \n\ny" || e != api.OK {
		t.Error(s, e)
	}
	if s, e := h.Poem("a"); s != "" || e != api.ErrNone {
		t.Error(s, e)
	}
	for k := range api.MaxShelf - 1 {
		does(t, h, "poem p"+strconv.Itoa(k)+"\nx", "1 1")
	}
	does(t, h, "poem more\nx", "error 3", "poem p3\ny\nz", "2 1", "drop p3", "31", "poem more\nx", "1 1")
	var none *house.House
	s, e := none.Do("names", "")
	u, f := none.Poem("a")
	if s+u != "" || e != api.ErrNil || f != api.ErrNil || len(none.Poems()) > 0 {
		t.Error("a nil house", e, f)
	}
}

// P32.4: what poems hang on.
func TestWays(t *testing.T) {
	h := house.New()
	does(t, h,
		sounds, "7", "say ROSE", "1 \"\u02c8roz\"", "say the", "1 \"\u00f0\u0259\" \"\u00f0i\"", "say roses", "2 \"\u02c8rozz\"", "say frob", "0", "say \"\"", "0", "say lily", "1 \"\u02c8li.li\"",
		"rules\n(f) > f\n(o) > o\n(t) > t\n", "3", "say foo", "3 \"\u02c8fo.o\"", "say f", "3", "say rose", "1 \"\u02c8roz\"", "accord rose arose", "4", "accord rose roses", "2", "accord rose f", "error 4", "accord f rose", "error 4", "accord rose rose", "5", "accord rose red", "0",
		"rules\n(a) > q", "error 80 6", "rules\nx", "error 90 1", "say foo", "3 \"\u02c8fo.o\"", "lexicon\nx", "error 102 0",
		"vocab\nrose n 5\narose v 2\n", "2", "rhymes rose", `"arose"`, "rhymes x", "", "vocab\nlily n 1\nx", "error 102 9", "vocab\nlily n 1", "3", "vocab\nlily n 1", "error 241 0",
		"metre \"2 iamb; end x 1\"", `"2 iamb; end x 1"`, "metre iam", "error 131 0", "metre", "error 321",
		"order\nput ch after c\nskip the\n", `"put ch after c\nskip the\n"`, "rhymes rose", "", "order\nfoo", "error 220 0", "sort b a", `"a" "b"`, "sort", "", `sort cz "the chx" cha`, `"cz" "cha" "the chx"`,
		"taste 1 2 3 1", "ok", "taste 5 0 0 0", "error 2", "taste 1 0 0 2", "error 2", "taste 1 0 0 -1", "error 2", "taste 1 -1 0 0", "error 2", "taste 1 0 1048577 0", "error 2", "taste 1 0 0", "error 321", "taste 2 0 0 0", "ok", "say foo", "3 \"fo\u02c8o\"",
		"vocab\nrose n 5", "1", "taste 2 0 0 0", "ok", "vocab\nrose n 5", "1", "lexicon\nrose = roz\n", "1", "vocab\nrose n 5", "1", "rules\n", "0", "vocab\nrose n 5", "1", "say foo", "0", "say rose", "1 \"roz\"",
	)
	// What reads lines is not looked at where none are taken.
	if got, _ := h.Do("say rose", strings.Repeat("x", api.MaxText+1)); got != "1 \"roz\"" {
		t.Error(got)
	}
	if got, _ := h.Do("order", strings.Repeat("\n", api.MaxText+1)); got != "error 3" {
		t.Error(got)
	}
	if got, _ := h.Do("order", strings.Repeat("\n", api.MaxText)); got != `""` {
		t.Error(got)
	}
}

// P32.4: scanned, judged, completed.
func TestForms(t *testing.T) {
	h := house.New()
	does(t, h,
		sounds, "7", "metre \"2 iamb\"", `"2 iamb"`, "poem a\nthe day of day\na!\nthe rose\narose\n", "4 1", "poem b\nthe _n\narose\n", "2 1",
		"scan a 0", `1 2 "x/|x/ the day of day"`, "scan a 1", "error 4", "scan a 2", "error 4", "scan a 9", "error 5", "scan x 0", "error 4", "metre iamb", `"iamb"`, "scan a 2", `0 2 "x/ the rose"`,
		"form\nform x\nstanza a a\n", `"x"`, "forms", `"x"`, "check b x", "1 1/161/0/0/0", "check b y", "error 4", "check x x", "error 4", "check a x", "1 -1/198/-1/4/0", "check a haiku", "1 -1/198/-1/4/0",
		"which b", `"ballad" 1`, "which a", `"haiku" 1`, "which x", "error 4",
		"vocab\nrose n 5\nlily n 5\n", "2", "fill b x 9 c", `2 "rose"`, "show c", `"the rose\narose\n"`, "check c x", "0", "fill b x 1 d", "error 251", "fill b x -1 d", "error 2", "fill b y 1 d", "error 4", "fill z x 1 d", "error 4", "fill b x x d", "error 2", "fill c x 0 d", "0", "names", `"a" "b" "c" "d"`, "fill a x 9 e", "error 4", "poem e\n_z", "1 1", "fill e x 9 f", "error 250",
		"form\nform y\nstanza a", `"y"`, "form\nform x\nstanza b b b", `"x"`, "forms", `"x" "y"`, "check b x", "1 -1/198/-1/2/0", "form\nx", "error 180 0", "form\nform x\nstanza a:q", "error 181 16",
		"form\nform haiku\nstanza a", `"haiku"`, "check e haiku", "0",
	)
	for k := range api.MaxShelf - 3 {
		does(t, h, "form\nform f"+strconv.Itoa(k)+"\nstanza a", `"f`+strconv.Itoa(k)+`"`)
	}
	does(t, h, "form\nform more\nstanza a", "error 3", "form\nform y\nstanza x", `"y"`)
	for k := range api.MaxShelf - 5 {
		does(t, h, "poem p"+strconv.Itoa(k)+"\nx", "1 1")
	}
	does(t, h, "form\nform x\nstanza a a", `"x"`, "fill b x 9 more", "error 3", "fill b x 9 p3", `2 "rose"`, "show p3", `"the rose\narose\n"`)
}

// P32.4: counted, found.
func TestFound(t *testing.T) {
	h := house.New()
	does(t, h,
		"places rose", "", "find rose", "", "guess rose", "error 4",
		"poem a\nthe rose\nthe rose red\n", "2 1", "poem \"b c\"\n# the\n\nR\u00f6se, oh rose\n", "1 1",
		"tally a 1", `3 5 "rose" 2`, "tally a 0", "3 5", "tally a 99", `3 5 "rose" 2 "the" 2 "red" 1`, "tally a -1", "error 2", "tally x -1", "error 4",
		"weigh a", "3fe3333333333333 "+entropy(2, 2, 1)+" "+float(2.5)+" "+float(0.5), "weigh x", "error 4", "cosine a a", "3ff0000000000000", "cosine a x", "error 4", "cosine x a", "error 4",
		"places ROSE", `"a"/0/1 "a"/1/1 "b c"/0/0 "b c"/0/2`, "places x", "", "places \"\"", "",
		"find rose", `"a"/0 "a"/1 "b c"/0`, `find "\"rose red\""`, `"a"/1`, `find "(rose"`, "error 230 5", "find \"not the\"", `"b c"/0`, "find =rose", "", "guess ros", `"rose" 1`, "guess "+strings.Repeat("x", 1025), "error 3", "guess \"\"", `"oh" 2`,
		sounds, "7", "find =rose~9", `"a"/0 "a"/1 "b c"/0`,
		"poem e\n", "0 0", "weigh e", "nan nan nan nan", "cosine e a", "nan", "tally e 3", "0 0",
	)
	many := ""
	for k := range 4097 {
		many += string([]byte{'a' + byte(k/676), 'a' + byte(k/26%26), 'a' + byte(k%26)}) + " "
		if k%200 == 199 {
			many += "\n"
		}
	}
	does(t, h, "poem m\n"+many, "21 1", "tally m 1", "error 3", "weigh m", "error 3", "cosine a m", "error 3", "cosine m a", "error 3")
}

// entropy is reckoned as chapter 20 says.
func entropy(l ...int) string {
	sum := 0
	for _, n := range l {
		sum += n
	}
	total := 0.0
	for _, n := range l {
		r := float64(n) / float64(sum)
		m, e := math.Frexp(r)
		m *= 2
		y, s := float64(e-1), 1.0
		for range 52 {
			m *= m
			s /= 2
			if m >= 2 {
				m /= 2
				y += s
			}
		}
		p := r * (0 - y)
		total += p
	}
	return float(total)
}

// P32.4, P32.9: changed, drafted, set, sung.
func TestChanged(t *testing.T) {
	h := house.New()
	does(t, h,
		"poem a\nthe rose\n", "1 1", "poem b\nthe r\u00f6se\nred\n", "2 1", "between a b", house.Quote(`=5 +"\{f6}se\{a}red" -"ose" =1`), "between a x", "error 4", "between x a", "error 4",
		"change a "+house.Quote(`=5 +"\{f6}" -"o" =2 +"\nred" =1`), "error 271 23", "change a "+house.Quote(`=5 +"\{f6}" -"o" =2 +"\{a}red" =1`), "2 1", "show a", house.Quote("the r\u00f6se\nred\n"), "change a =1", "error 5", "change a x", "error 271 0", "change x x", "error 4", "change a "+house.Quote(`-"x" =13`), "error 270", "change a "+house.Quote(`+"`+strings.Repeat("x", 1025)+`" =14`), "error 3 1024",
	)
	if got, _ := h.Do("between a b", ""); got != `"=14"` {
		t.Error(got)
	}
	does(t, h,
		"keep a no 1", "error 4", "keep a main -1", "error 2", "keep x main 1", "error 4", "keep a main 1", "1", "poem a\nthe lily\n", "1 1", "keep a main 2", "2", "fork a two 1", "ok", "fork a two 1", "error 280", "fork a Two 1", "error 280", "fork a three 9", "error 5", "fork x y 0", "error 4", "back a 1", "2 1", "show a", house.Quote("the r\u00f6se\nred\n"), "poem a\nthe r\u00f6se\nblue\n", "2 1", "keep a two 3", "3", "weave a main two 4", "4 1", "weave a main no 4", "error 4", "weave a no main 4", "error 4", "weave a main two -1", "error 2", "weave x main two 4", "error 4", "back a 4", "1 1", "show a", `"the lily\n"`, "back a 9", "error 5", "back a -1", "error 5", "back x 0", "error 4", "back a 0", "2 1",
		// The history is made when it is asked for first: not by what is answered by an error.
		"poem c\none\n", "1 1", "keep c no 1", "error 4", "poem c\ntwo\n", "1 1", "keep c main 1", "1", "back c 0", "1 1", "show c", `"two\n"`, "drop c", "2", "poem c\nthree\n", "1 1", "back c 1", "error 5", "back c 0", "1 1", "show c", `"three\n"`, "poem c\nfour\n", "1 1", "back c 0", "1 1", "show c", `"three\n"`, "weave c main main 0", "1 0",
	)
	does(t, h,
		"poem A\nthe quick fox\n", "1 1", "poem B\nthe quick brown fox", "1 1", "poem C\na brown fox", "1 1", "poem D\na quick fox", "1 1", "witness A B C D", `4 3 4 2 "(A,((B,C),D))"`, "witness", "error 2", "witness A x", "error 4", "witness A A", "error 2", "witness A", `3 0 0 1 "A"`, "poem \"a b\"\nx", "1 1", `witness A "a b"`, "error 2",
		"poem p\na\nb\nc\n\nd\ne\n", "5 2", "page p 8 4 2 2", `2 1 "a\nb         2\nc\n\x0cd         4\ne\n"`, "page p 7 4 2 2", "error 2", "page x 8 4 2 2", "error 4", "page p 8 4 2", "error 321", "page p 8 4 2 x", "error 2",
		"round 1 0", "0 0", sounds, "7", "metre iamb", `"iamb"`, "poem s\nthe day\nthe rose\n", "2 1", "chant s 500 2000 1000 1000 2000", "4 "+float(4.5), "round 3 500", "12 3", "round 0 0", "error 2", "round 17 0", "error 2", "round 2 -1", "error 2", "chant s 0 1 1 1 1", "error 2", "chant p 500 1000 1000 0 1000", "error 4", "round 1 0", "4 1", "chant x 1 1 1 1 1", "error 4", "chant s 500 2000 1000 -1 2000", "error 2",
	)
}

// P32.3
func TestTakes(t *testing.T) {
	for line, want := range map[string]bool{"poem a": true, `"poem" "a"`: true, "  poem   a ": true, "poem": false, "poem a b": false, `poem ""`: false, "poem " + strings.Repeat("x", 64): true, "poem " + strings.Repeat("x", 65): false, "rules": true, "lexicon": true, "order": true, "vocab": true, "form": true, "form x": false, "forms": false, "show a": false, "": false, "#": false, "# poem a": false, `poem "a`: false, "fly": false, "metre x": false} {
		if house.Takes(line) != want {
			t.Errorf("Takes(%q)", line)
		}
	}
}

// P32.6, P32.8
func TestRun(t *testing.T) {
	for script, want := range map[string]struct {
		answers string
		spot    api.Spot
	}{
		"":                                   {"", api.Spot{}},
		"\n\n":                               {"", api.Spot{}},
		"names":                              {"", api.Spot{}},
		"poem a\nthe rose\n.\nshow a":        {"1 1\n\"the rose\\n\"\n", api.Spot{}},
		"poem a\n.\nshow a\n":                {"0 0\n\"\"\n", api.Spot{}},
		"poem a\n..\n.x\n...\n. \n.\nshow a": {"4 1\n" + house.Quote(".\n.x\n..\n. \n") + "\n", api.Spot{}},
		"fly\npoem a\nx\n":                   {"error 321\n", api.Spot{Err: api.ErrOpen, At: 4}},
		"poem a":                             {"", api.Spot{Err: api.ErrOpen}},
		"poem a\nx\n.\n# note \"\n\n \"x":    {"1 1\nerror 320\n", api.Spot{}},
		"poem\nx\n.":                         {"error 321\nerror 321\nerror 321\n", api.Spot{}},
		"poem a\nx\r\n.\r\n.\nline a 1":      {"2 1\n\".\" 0 0 1\n", api.Spot{}},
		"rules\nx\n.\nsay a":                 {"error 90 1\n0\n", api.Spot{}},
	} {
		got, spot := house.Run(script)
		if got != want.answers || spot != want.spot {
			t.Errorf("Run(%q): %q, %v, want %q, %v", script, got, spot, want.answers, want.spot)
		}
	}
	long := strings.Repeat("#\n", api.MaxScript/2)
	if got, spot := house.Run(long); got != "" || spot != (api.Spot{}) {
		t.Error("at the limit", spot)
	}
	if got, spot := house.Run(long + "#"); got != "" || spot != (api.Spot{Err: api.ErrLong, At: api.MaxScript}) {
		t.Error("behind it", spot)
	}
}

// P32.6: more answers than are given.
func TestAnswers(t *testing.T) {
	line := strings.Repeat("\x01", 1000)
	script := "poem a\n" + strings.Repeat(line+"\n", 60) + ".\n"
	one := len(house.Quote(strings.Repeat(line+"\n", 60))) + 1
	n := (api.MaxAnswers-len("60 1\n"))/one + 1
	script += strings.Repeat("show a\n", n)
	got, spot := house.Run(script)
	if spot != (api.Spot{}) || len(got) != len("60 1\n")+n*one || len(got) <= api.MaxAnswers {
		t.Fatal(len(got), spot)
	}
	for more, want := range map[string]api.Spot{"": {}, "\n  \n#x\n": {}, "names": {Err: api.ErrLong, At: len(script)}, "# \"\n\"": {Err: api.ErrLong, At: len(script) + 4}, "poem b\n": {Err: api.ErrOpen, At: len(script)}, "\npoem b\n.\n": {Err: api.ErrLong, At: len(script) + 1}} {
		again, spot := house.Run(script + more)
		if again != got || spot != want {
			t.Errorf("%q: %d, %v, want %v", more, len(again), spot, want)
		}
	}
}

// P32.8: a script in two halves, and without what is answered by an error.
func TestHalves(t *testing.T) {
	c := chance(2)
	names := func() string { return c.of("a", "b", "c", `"d e"`) }
	for range 300 {
		var all []string
		for range 12 {
			all = append(all, c.of(
				"poem "+names()+"\n"+c.of("the rose\n", "the _n\n", "a day\n\nof red\n")+".\n",
				"show "+names()+"\n", "line "+names()+" "+c.of("0", "1")+"\n", "drop "+names()+"\n", "names\n",
				sounds+".\n", "rules\n"+c.of("(a) > a\n", "x\n")+".\n", "vocab\nrose n 5\n.\n", "order\n.\n", "taste 1 "+c.of("2", "9", "-1")+" 0 0\n", "metre "+c.of("iamb", `"2 iamb"`, "x")+"\n", "form\nform x\nstanza "+c.of("a", "a a", "!")+"\n.\n", "forms\n",
				"say the\n", "accord rose arose\n", "rhymes rose\n", "scan "+names()+" 0\n", "check "+names()+" x\n", "which "+names()+"\n", "fill "+names()+" x 9 "+names()+"\n", "tally "+names()+" 2\n", "weigh "+names()+"\n", "cosine a b\n", "places rose\n", "find \"rose or day\"\n", "guess ros\n", "between a b\n", "keep "+names()+" "+c.of("main", "two")+" 1\n", "fork "+names()+" two 0\n", "weave "+names()+" main two 3\n", "back "+names()+" "+c.of("0", "1")+"\n", "witness a b\n", "page "+names()+" 8 4 2 1\n", "chant "+names()+" 500 1000 1000 0 1000\n", "round 2 100\n", "fly\n", "\n", "# x\n"))
		}
		h := house.New()
		want, kept := "", ""
		var answers []string
		for _, s := range all {
			line, lines, _ := strings.Cut(strings.TrimSuffix(s, ".\n"), "\n")
			before, _ := house.Run(kept)
			got, e := h.Do(line, lines)
			if e != api.OK {
				t.Fatal(e)
			}
			if !strings.HasPrefix(got, "error") {
				kept += s
			}
			after, _ := house.Run(kept)
			if got != "" {
				want += got + "\n"
				answers = append(answers, got)
			}
			if !strings.HasPrefix(got, "error") && after != strings.TrimSuffix(before+got+"\n", "\n")+map[bool]string{true: "\n", false: ""}[before+got != "" && got != ""] {
				t.Fatalf("without errors: %q: %q, %q, %q", s, before, got, after)
			}
		}
		if got, spot := house.Run(strings.Join(all, "")); got != want || spot != (api.Spot{}) {
			t.Fatalf("Run(%q): %q, %v, want %q", all, got, spot, want)
		}
		for _, name := range h.Poems() {
			text, _ := h.Do("show "+house.Quote(name), "")
			s, ok := house.Unquote(text)
			p, _ := poem.Read(s)
			own, _ := h.Poem(name)
			q, _ := poem.Read(own)
			if !ok || !p.Same(q) {
				t.Fatalf("show %q: %q", name, text)
			}
		}
	}
}

// R1: whatever the bytes are.
func TestAnything(t *testing.T) {
	c := chance(3)
	begun := time.Now()
	for range 3000 {
		s := ""
		for range c.less(20) {
			s += c.of("poem a\n", "\xff", " ", "\"", "\\", "\n", ".\n", "show ", "a ", "1 ", "-1 ", "line ", "rules\n", "lexicon\n", "the = a\n", "form\n", "form x\n", "stanza a\n", "vocab\n", "fill ", "check ", "x ", "#", "find ", "guess ", "999999999999999999 ", "chant ", "page ", "witness ", "keep ", "weave ", "main ", "back ", "\x00")
		}
		a, x := house.Run(s)
		b, y := house.Run(s)
		if a != b || x != y {
			t.Fatalf("Run(%q): %q, %q", s, a, b)
		}
	}
	if time.Since(begun) > time.Minute {
		t.Error("too slow:", time.Since(begun))
	}
}
