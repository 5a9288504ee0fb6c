package metre_test

import (
	"regexp"
	"slices"
	"strconv"
	"strings"
	"testing"

	"canticle/api"
	"canticle/metre"
)

type chance uint64

func (c *chance) less(n int) int {
	*c = *c*6364136223846793005 + 1442695040888963407
	return int(uint64(*c)>>33) % n
}

func (c *chance) of(l ...string) string { return l[c.less(len(l))] }

// feet is the chapter's table.
const feet = `amphibrach x/x amphibrachic, anapest xx/ anapestic, antibacchius //x antibacchic, bacchius x// bacchic, choriamb /xx/ choriambic, cretic /x/ cretic, dactyl /xx dactylic, iamb x/ iambic, ionic xx// ionic, molossus /// molossic, pyrrhic xx pyrrhic, spondee // spondaic, tribrach xxx tribrachic, trochee /x trochaic`

func table() [][]string {
	var l [][]string
	for _, row := range strings.Split(feet, ", ") {
		l = append(l, strings.Fields(row))
	}
	return l
}

func read(t *testing.T, text string) api.Metre {
	t.Helper()
	m, bad := metre.Read(text)
	if bad != (api.Spot{}) {
		t.Fatalf("Read(%q): %v", text, bad)
	}
	return m
}

// P13.1
func TestNames(t *testing.T) {
	var got []string
	for name, signs := range metre.Names() {
		got = append(got, name+" "+signs)
	}
	var want []string
	for _, row := range table() {
		want = append(want, row[0]+" "+row[1])
		if s, ok := metre.Named(row[0]); s != row[1] || !ok {
			t.Errorf("Named(%q): %q, %v", row[0], s, ok)
		}
	}
	if !slices.Equal(got, want) || !slices.IsSorted(got) || len(got) != 14 {
		t.Errorf("Names: %q", got)
	}
	for range metre.Names() {
		break
	}
	for _, name := range []string{"", "iam", "iamb ", "IAMB", "x/", "iambic"} {
		if s, ok := metre.Named(name); s != "" || ok {
			t.Errorf("Named(%q): %q, %v", name, s, ok)
		}
	}
}

// P13.2
func TestCheck(t *testing.T) {
	base := func() api.Metre { return read(&testing.T{}, "3 iamb; any spondee 1; end x 1; break 1 1; break 2 5") }
	many := func(n int) []api.Variant {
		var l []api.Variant
		for k := range n {
			s := ""
			for b := range 4 {
				s += "x/"[k>>b&1 : k>>b&1+1]
			}
			l = append(l, api.Variant{Signs: s})
		}
		return l
	}
	for k, x := range []struct {
		change func(m *api.Metre)
		want   api.Errno
	}{
		{func(m *api.Metre) {}, api.OK}, {func(m *api.Metre) { m.Feet = nil }, api.ErrArg}, {func(m *api.Metre) { m.Feet = slices.Repeat(m.Feet, 6)[:16] }, api.OK}, {func(m *api.Metre) { m.Feet = slices.Repeat(m.Feet, 6)[:17] }, api.ErrArg},
		{func(m *api.Metre) { m.Feet[0].Own = "" }, api.ErrArg}, {func(m *api.Metre) { m.Feet[2].Own = "xy" }, api.ErrArg}, {func(m *api.Metre) { m.Feet[0].Own = "xxxx" }, api.OK}, {func(m *api.Metre) { m.Feet[0].Own = "xxxxx" }, api.ErrArg}, {func(m *api.Metre) { m.Feet[0].Own = "//" }, api.ErrArg}, {func(m *api.Metre) { m.Feet[0].Own = "x\xff" }, api.ErrArg},
		{func(m *api.Metre) { m.Feet[1].Others[0].Signs = "" }, api.ErrArg}, {func(m *api.Metre) { m.Feet[1].Others[0].Signs = "x/" }, api.ErrArg}, {func(m *api.Metre) { m.Feet[1].Others[0].Signs = "/////" }, api.ErrArg}, {func(m *api.Metre) { m.Feet[1].Others[0].Cost = -1 }, api.ErrArg}, {func(m *api.Metre) { m.Feet[1].Others[0].Cost = api.MaxCost }, api.OK}, {func(m *api.Metre) { m.Feet[1].Others[0].Cost = api.MaxCost + 1 }, api.ErrArg},
		{func(m *api.Metre) { m.Feet[1].Others = many(15) }, api.OK}, {func(m *api.Metre) { m.Feet[1].Others = many(16) }, api.ErrArg}, {func(m *api.Metre) { m.Feet[1].Others = append(many(4), many(1)...) }, api.ErrArg},
		{func(m *api.Metre) { m.Ends[0].Signs = "" }, api.ErrArg}, {func(m *api.Metre) { m.Ends[0].Signs = "xxx" }, api.ErrArg}, {func(m *api.Metre) { m.Ends[0].Cost = -1 }, api.ErrArg}, {func(m *api.Metre) { m.Ends[0].Cost = api.MaxCost + 1 }, api.ErrArg}, {func(m *api.Metre) { m.Ends = append(m.Ends, api.Variant{Signs: "x"}) }, api.ErrArg}, {func(m *api.Metre) { m.Ends = []api.Variant{{Signs: "x"}, {Signs: "/"}, {Signs: "xx"}, {Signs: "//"}} }, api.OK},
		{func(m *api.Metre) {
			m.Ends = []api.Variant{{Signs: "x"}, {Signs: "/"}, {Signs: "xx"}, {Signs: "//"}, {Signs: "x/"}}
		}, api.ErrArg},
		{func(m *api.Metre) { m.Breaks[0].After = 0 }, api.ErrArg}, {func(m *api.Metre) { m.Breaks[0].After = 2 }, api.ErrArg}, {func(m *api.Metre) { m.Breaks[1].After = 3 }, api.ErrArg}, {func(m *api.Metre) { m.Breaks[1].Cost = 0 }, api.ErrArg}, {func(m *api.Metre) { m.Breaks[1].Cost = api.MaxCost }, api.OK}, {func(m *api.Metre) { m.Breaks[1].Cost = api.MaxCost + 1 }, api.ErrArg},
	} {
		m := base()
		x.change(&m)
		if e := metre.Check(m); e != x.want {
			t.Errorf("%d: Check: %v", k, e)
		}
		if x.want == api.OK {
			continue
		}
		_, a := metre.Print(m)
		_, b := metre.Title(m)
		_, c := metre.Spans(m)
		_, _, d := metre.Syllables(m)
		_, e := metre.Join(m, base())
		_, f := metre.Join(base(), m)
		_, g := metre.Count(m)
		_, _, h := metre.Least(m, "x/")
		_, i := metre.First(m, "x/")
		for n, e := range []api.Errno{a, b, c, d, e, f, g, h, i} {
			if e != api.ErrArg {
				t.Errorf("%d: the call %d: %v", k, n, e)
			}
		}
		if metre.Same(m, m) {
			t.Errorf("%d: Same", k)
		}
		for range metre.Patterns(m) {
			t.Fatalf("%d: Patterns", k)
		}
	}
}

// kinds are the tokens of a text, by a letter each: F a right figure, B another one, S signs of 1 or 2, T of 3 or 4, X what begins so, A, E, K the words any, end, break, N another one.
func kinds(text string) (string, []string, []int) {
	kind, words, at := "", []string(nil), []int(nil)
	for _, x := range regexp.MustCompile(`[,;]|[^,; ]+`).FindAllStringIndex(text, -1) {
		w := text[x[0]:x[1]]
		k := "N"
		switch {
		case w == "," || w == ";":
			k = w
		case regexp.MustCompile(`^(0|-?[1-9][0-9]{0,17})$`).MatchString(w):
			k = "F"
		case regexp.MustCompile(`^[0-9-]`).MatchString(w):
			k = "B"
		case regexp.MustCompile(`^[x/]{1,2}$`).MatchString(w):
			k = "S"
		case regexp.MustCompile(`^[x/]{3,4}$`).MatchString(w):
			k = "T"
		case regexp.MustCompile(`^[x/]`).MatchString(w):
			k = "X"
		case w == "any":
			k = "A"
		case w == "end":
			k = "E"
		case w == "break":
			k = "K"
		}
		kind, words, at = kind+k, append(words, w), append(at, x[0])
	}
	return kind, words, append(at, len(text))
}

var whole = regexp.MustCompile(`^F?[STNAEK](,F?[STNAEK])*(;([AF][STNAEK]F(,[STNAEK]F)*|ESF(,SF)*|KFF))*$`)

// wrong is the first thing that is wrong with a text: what the grammar says, and then, word by word, what the words say.
func wrong(text string) api.Spot {
	kind, words, at := kinds(text)
	end := len(kind)
	for n := 1; n <= len(kind); n++ {
		goes := false
		for _, more := range []string{"", "N", "F", "NF", "SF", "FF", "ANF"} {
			goes = goes || whole.MatchString(kind[:n]+more)
		}
		if !goes {
			end = n - 1
			break
		}
	}
	if end == len(kind) && whole.MatchString(kind) {
		end = len(kind) + 1
	}
	spot := func(e api.Errno, k int) api.Spot { return api.Spot{Err: e, At: at[k]} }
	var own []string
	others := map[int][]string{}
	var ends []string
	mode, count, first, last, target := 'G', 1, -1, 0, 0
	for k := 0; k < min(end, len(kind)); k++ {
		w := words[k]
		n, _ := strconv.Atoi(w)
		if kind[k] == ';' {
			mode = 'C'
			continue
		}
		if kind[k] == ',' {
			continue
		}
		signs := w
		isFoot := mode == 'G' && kind[k] != 'F' || (mode == 'A' || mode == 'N') && kind[k] != 'F'
		if isFoot && !strings.ContainsAny(kind[k:k+1], "ST") {
			s, ok := metre.Named(w)
			if !ok {
				return spot(api.ErrFoot, k)
			}
			signs = s
		}
		switch {
		case mode == 'G' && kind[k] == 'F':
			if n < 1 || n > 16 {
				return spot(api.ErrArg, k)
			}
			count, first = n, k
		case mode == 'G':
			if first < 0 {
				first = k
			}
			if len(own)+count > 16 {
				return spot(api.ErrLong, first)
			}
			for range count {
				own = append(own, signs)
			}
			count, first = 1, -1
		case mode == 'C' && kind[k] == 'F':
			if n < 1 || n > len(own) {
				return spot(api.ErrArg, k)
			}
			mode, target = 'N', n-1
		case mode == 'C' && kind[k] == 'K':
			mode = 'K'
		case mode == 'C':
			mode = rune(kind[k])
		case mode == 'K':
			if n <= last || n >= len(own) {
				return spot(api.ErrArg, k)
			}
			last, mode = n, 'L'
		case mode == 'L':
			if n < 1 || n > api.MaxCost {
				return spot(api.ErrArg, k)
			}
		case kind[k] == 'F':
			if n < 0 || n > api.MaxCost {
				return spot(api.ErrArg, k)
			}
		case mode == 'E':
			if slices.Contains(ends, w) {
				return spot(api.ErrAgain, k)
			}
			if len(ends) == 4 {
				return spot(api.ErrLong, k)
			}
			ends = append(ends, w)
		default:
			again, long := false, false
			for f := range own {
				if mode == 'N' && f != target || mode == 'A' && own[f] == signs {
					continue
				}
				again = again || own[f] == signs || slices.Contains(others[f], signs)
				long = long || len(others[f]) == 15
			}
			if again {
				return spot(api.ErrAgain, k)
			}
			if long {
				return spot(api.ErrLong, k)
			}
			for f := range own {
				if !(mode == 'N' && f != target || mode == 'A' && own[f] == signs) {
					others[f] = append(others[f], signs)
				}
			}
		}
	}
	if end <= len(kind) {
		return spot(api.ErrMetre, end)
	}
	return api.Spot{}
}

// P13.3, P13.4, P13.10
func TestRead(t *testing.T) {
	c := chance(1)
	good := 0
	foot := func() string {
		return c.of("iamb", "trochee", "x/", "//", "xx", "/", "xx//", "x", "xxx", "spondee", "pyrrhic", "/x/", "iam", "any", "xxxxx", "xy", "1")
	}
	cost := func() string { return c.of("0", "1", "3", "12", "-1", "01", "1048576", "1048577", "-0", "+1", "a") }
	for k := range 10000 {
		text := ""
		if k%3 > 0 {
			text = c.of("", "2 ", "5 ", "3 ", "16 ", "0 ", "17 ") + foot() + c.of("", "", ", iamb", ",12 xx", ",")
			for range c.less(4) {
				text += c.of(";", "; ", " ;", ",")
				switch c.less(4) {
				case 0:
					text += "any " + foot() + " " + cost() + c.of("", "", ","+foot()+" "+cost())
				case 1:
					text += c.of("1", "2", "5", "0", "6") + " " + foot() + " " + cost() + c.of("", "", ", "+foot()+" "+cost())
				case 2:
					text += "end " + c.of("x", "/", "xx", "xxx", "iamb") + " " + cost() + c.of("", "", ", "+c.of("x", "/x")+" "+cost())
				case 3:
					text += "break " + c.of("1", "2", "4", "0", "5") + " " + cost()
				}
			}
		} else {
			for range c.less(9) {
				text += c.of("any ", "end ", "break ", ",", ";", "x/ ", "iamb ", "1 ", "2 ", "x ", " ", "0 ", "foot ", "-1 ", "\xff ", "xx/x ")
			}
		}
		want := wrong(text)
		m, bad := metre.Read(text)
		if bad != want {
			t.Fatalf("Read(%q): %v, want %v", text, bad, want)
		}
		if bad.Err != api.OK {
			if len(m.Feet)+len(m.Ends)+len(m.Breaks) > 0 {
				t.Fatalf("Read(%q): %v", text, m)
			}
			continue
		}
		good++
		if e := metre.Check(m); e != api.OK {
			t.Fatalf("Check of %q: %v", text, e)
		}
		p, e := metre.Print(m)
		again, bad := metre.Read(p)
		if e != api.OK || bad.Err != api.OK || !metre.Same(m, again) {
			t.Fatalf("%q there and back: %q, %v", text, p, bad)
		}
	}
	if good < 500 {
		t.Error("right ones:", good)
	}
}

// P13.3: what is read, and what is wrong.
func TestTexts(t *testing.T) {
	m := read(t, "5 iamb; any spondee 1, pyrrhic 1; 1 trochee 1; end x 1; break 2 3")
	a := []api.Variant{{Signs: "//", Cost: 1}, {Signs: "xx", Cost: 1}}
	want := api.Metre{Feet: []api.Foot{{Own: "x/", Others: append(slices.Clone(a), api.Variant{Signs: "/x", Cost: 1})}, {Own: "x/", Others: a}, {Own: "x/", Others: a}, {Own: "x/", Others: a}, {Own: "x/", Others: a}}, Ends: []api.Variant{{Signs: "x", Cost: 1}}, Breaks: []api.Break{{After: 2, Cost: 3}}}
	if !metre.Same(m, want) {
		t.Error(m)
	}
	p, _ := metre.Print(m)
	if p != "5 iamb; 1 spondee 1, pyrrhic 1, trochee 1; 2 spondee 1, pyrrhic 1; 3 spondee 1, pyrrhic 1; 4 spondee 1, pyrrhic 1; 5 spondee 1, pyrrhic 1; end x 1; break 2 3" {
		t.Errorf("Print: %q", p)
	}
	m.Feet[1].Others[0].Cost = 9
	if m.Feet[2].Others[0].Cost != 1 {
		t.Error("lists are shared")
	}
	if p, _ := metre.Print(read(t, "x/ ,iamb, 2 ////,x;end x/ 0,/ 7")); p != "2 iamb, 2 ////, x; end x/ 0, / 7" {
		t.Errorf("Print: %q", p)
	}
	other := "iamb; 1 xxxx 0, xxx/ 0, xx/x 0, xx// 0, x/xx 0, x/x/ 0, x//x 0, x/// 0, /xxx 0, /xx/ 0, /x/x 0, /x// 0, //xx 0, //x/ 0, ///x 0"
	spot := func(e api.Errno, at int) api.Spot { return api.Spot{Err: e, At: at} }
	for text, want := range map[string]api.Spot{
		"": spot(130, 0), "  ": spot(130, 2), "5": spot(130, 1), "0 iamb": spot(2, 0), "17 iamb": spot(2, 0), "9 iamb, 8 iamb": spot(3, 8), "iam": spot(131, 0), "iamb;": spot(130, 5), "iamb; 2 trochee 1": spot(2, 6), "iamb; 1 x/ 1": spot(132, 8), "iamb; any x/ 1": {}, "iamb; end iamb 1": spot(130, 10),
		"2 iamb; break 1 0": spot(2, 16), "2 iamb; break 2 1": spot(2, 14), "iamb; 1 xx -1": spot(2, 11), "iamb; 1 xx 01": spot(130, 11), "iamb; break 1 1": spot(2, 12),
		"16 iamb": {}, "16 iamb, x": spot(3, 9), "16 iamb, 1 iam": spot(131, 11), "9 iamb, 8 5": spot(130, 10), "9 iamb, 99 iam": spot(2, 8),
		other: {}, other + ", //// 0": spot(3, len(other)+2), other + ", xxxx 0": spot(132, len(other)+2), other + "; any // 0": spot(3, len(other)+6), other + "; any x/ 0": {}, other + ", xxxxx 0": spot(130, len(other)+2),
		"iamb; end x 0, / 0, xx 0, // 0": {}, "iamb; end x 0, / 0, xx 0, // 0, x/ 0": spot(3, 32), "iamb; end x 0; end x 0": spot(132, 19), "iamb; end x 0; end / 0": {},
		"2 iamb; any xx 1, xx 2": spot(132, 18), "iamb, trochee; any x/ 1; 2 x/ 1": spot(132, 27), "iamb, trochee; 1 xx 1; any xx 1": spot(132, 27), "iamb 1": spot(130, 5), "iamb; break 1 1, 2 2": spot(2, 12), "3 iamb; break 1 1, 2 2": spot(130, 17), "3 iamb; break 2 1; break 2 1": spot(2, 25), "3 iamb; break 1 1; break 2 1048576": {}, "3 iamb; break 1 1; break 2 1048577": spot(2, 27),
		"iamb; 1 xx 1048576": {}, "iamb; 1 xx 1048577": spot(2, 11), "iamb; 1 xx 999999999999999999": spot(2, 11), "iamb; 1 xx 1000000000000000000": spot(130, 11), "iamb; 1 xx -999999999999999999": spot(2, 11), "iamb; 1 xx -0": spot(130, 11), "iamb; 1 xx -": spot(130, 11), "iamb;; any xx 1": spot(130, 5), "iamb; any xx 1, ; ": spot(130, 16), "iamb, , iamb": spot(130, 6), "iamb\n": spot(131, 0), "iamb; any": spot(130, 9), "iamb; any xx": spot(130, 12), "iamb; 1": spot(130, 7), "x\xff": spot(130, 0), "\xff": spot(131, 0),
		strings.Repeat(" ", api.MaxText-1) + "x": {}, strings.Repeat(" ", api.MaxText) + "x": spot(3, api.MaxText), "x" + strings.Repeat(",", api.MaxText): spot(3, api.MaxText),
	} {
		if _, bad := metre.Read(text); bad != want {
			t.Errorf("Read(%.70q): %v, want %v", text, bad, want)
		}
	}
}

// made makes a metre by chance, one of few choices.
func (c *chance) made() api.Metre {
	own := func() string { return c.of("x/", "/x", "x", "/", "xx/", "//") }
	var m api.Metre
	for range 1 + c.less(4) {
		f := api.Foot{Own: own()}
		for range c.less(3) {
			if s := own(); s != f.Own && !slices.ContainsFunc(f.Others, func(v api.Variant) bool { return v.Signs == s }) {
				f.Others = append(f.Others, api.Variant{Signs: s, Cost: c.less(3)})
			}
		}
		m.Feet = append(m.Feet, f)
	}
	for _, s := range []string{"x", "/", "x/"}[:c.less(4)] {
		m.Ends = append(m.Ends, api.Variant{Signs: s, Cost: c.less(3)})
	}
	for k := 1; k < len(m.Feet); k++ {
		if c.less(3) == 0 {
			m.Breaks = append(m.Breaks, api.Break{After: k, Cost: 1 + c.less(3)})
		}
	}
	return m
}

// patterns are all choices, each told.
func patterns(m api.Metre) []api.Pattern {
	all := []api.Pattern{{}}
	add := func(own string, others []api.Variant) {
		var next []api.Pattern
		for _, p := range all {
			for k, v := range append([]api.Variant{{Signs: own}}, others...) {
				next = append(next, api.Pattern{Signs: p.Signs + v.Signs, Cost: p.Cost + v.Cost, Choice: append(slices.Clone(p.Choice), k)})
			}
		}
		all = next
	}
	for _, f := range m.Feet {
		add(f.Own, f.Others)
	}
	add("", m.Ends)
	return all
}

func samePattern(a, b api.Pattern) bool {
	return a.Signs == b.Signs && a.Cost == b.Cost && slices.Equal(a.Choice, b.Choice)
}

// P13.5 to P13.10
func TestMade(t *testing.T) {
	c := chance(2)
	var last api.Metre
	for k := range 3000 {
		m := c.made()
		if e := metre.Check(m); e != api.OK {
			t.Fatal(m, e)
		}
		p, _ := metre.Print(m)
		if again := read(t, p); !metre.Same(m, again) {
			t.Fatalf("%v there and back: %q", m, p)
		}
		all := patterns(m)
		n, e := metre.Count(m)
		if got := slices.Collect(metre.Patterns(m)); n != len(all) || e != api.OK || !slices.EqualFunc(got, all, samePattern) {
			t.Fatalf("%q: Count %d, Patterns %v", p, n, got)
		}
		few, many := 1<<30, 0
		signs := map[string]bool{"": true, "x/x/": true, "xx": true, strings.Repeat("x", 99): true, "x\xff": true}
		for _, y := range all {
			few, many = min(few, len(y.Signs)), max(many, len(y.Signs))
			signs[y.Signs] = true
		}
		if a, b, e := metre.Syllables(m); a != few || b != many || e != api.OK {
			t.Fatalf("Syllables of %q: %d, %d", p, a, b)
		}
		at := 0
		l, e := metre.Spans(m)
		for k, f := range m.Feet {
			if e != api.OK || l[k] != (api.Span{From: at, To: at + len(f.Own)}) {
				t.Fatalf("Spans of %q: %v", p, l)
			}
			at += len(f.Own)
		}
		for s := range signs {
			least(t, m, s, all)
		}
		if k > 0 {
			together(t, m, last)
		}
		last = m
	}
}

func least(t *testing.T, m api.Metre, signs string, all []api.Pattern) {
	t.Helper()
	cost, ways := 0, 0
	var first api.Pattern
	for _, y := range all {
		if y.Signs != signs {
			continue
		}
		if ways == 0 || y.Cost < cost {
			cost, ways, first = y.Cost, 0, y
		}
		if y.Cost == cost {
			ways++
		}
	}
	a, b, e := metre.Least(m, signs)
	p, f := metre.First(m, signs)
	if ways == 0 {
		if e != api.ErrNone || f != api.ErrNone || a+b != 0 || !samePattern(p, api.Pattern{}) {
			t.Fatalf("Least(%v, %q): %d, %d, %v; %v, %v", m, signs, a, b, e, p, f)
		}
		return
	}
	if e != api.OK || f != api.OK || a != cost || b != ways || !samePattern(p, first) {
		t.Fatalf("Least(%v, %q): %d, %d, %v; %v, %v", m, signs, a, b, e, p, f)
	}
}

func together(t *testing.T, a, b api.Metre) {
	t.Helper()
	m, e := metre.Join(a, b)
	if e != api.OK || metre.Check(m) != api.OK || len(m.Feet) != len(a.Feet)+len(b.Feet) || len(m.Breaks) != len(a.Breaks)+len(b.Breaks) || !slices.Equal(m.Ends, b.Ends) {
		t.Fatalf("Join(%v, %v): %v, %v", a, b, m, e)
	}
	for k, f := range slices.Concat(a.Feet, b.Feet) {
		if m.Feet[k].Own != f.Own || !slices.Equal(m.Feet[k].Others, f.Others) {
			t.Fatalf("Join(%v, %v): %v", a, b, m)
		}
	}
	for k, x := range m.Breaks {
		want := api.Break{}
		if k < len(a.Breaks) {
			want = a.Breaks[k]
		} else {
			want = b.Breaks[k-len(a.Breaks)]
			want.After += len(a.Feet)
		}
		if x != want {
			t.Fatalf("Join(%v, %v): %v", a, b, m)
		}
	}
	n, _ := metre.Count(m)
	x, _ := metre.Count(api.Metre{Feet: a.Feet})
	if y, _ := metre.Count(b); n != x*y {
		t.Fatalf("Count of Join(%v, %v): %d", a, b, n)
	}
	if metre.Same(a, b) != (slices.Equal(a.Ends, b.Ends) && slices.Equal(a.Breaks, b.Breaks) && slices.EqualFunc(a.Feet, b.Feet, func(f, g api.Foot) bool { return f.Own == g.Own && slices.Equal(f.Others, g.Others) })) {
		t.Fatalf("Same(%v, %v)", a, b)
	}
	for k := range m.Feet {
		for j := range m.Feet[k].Others {
			m.Feet[k].Others[j].Cost = 77
		}
	}
	for _, f := range slices.Concat(a.Feet, b.Feet) {
		if slices.ContainsFunc(f.Others, func(v api.Variant) bool { return v.Cost == 77 }) {
			t.Fatal("Join shares lists")
		}
	}
}

// P13.5, P13.7, P13.8, P13.9: names, limits.
func TestLimits(t *testing.T) {
	for n, want := range strings.Fields("monometer dimeter trimeter tetrameter pentameter hexameter heptameter octameter 9-meter 10-meter 11-meter 12-meter 13-meter 14-meter 15-meter 16-meter") {
		for _, row := range table() {
			if got, e := metre.Title(read(t, strconv.Itoa(n+1)+" "+row[0])); e != api.OK || got != row[2]+" "+want {
				t.Errorf("Title: %q, %v", got, e)
			}
		}
	}
	for _, text := range []string{"iamb,trochee", "2 ////", "x", "2 iamb, x"} {
		if got, e := metre.Title(read(t, text)); got != "mixed" || e != api.OK {
			t.Errorf("Title of %q: %q, %v", text, got, e)
		}
	}
	eight := read(t, "8 iamb")
	if m, e := metre.Join(eight, eight); e != api.OK || len(m.Feet) != 16 {
		t.Error("Join", e)
	}
	if m, e := metre.Join(eight, read(t, "9 iamb")); e != api.ErrLong || len(m.Feet) != 0 {
		t.Error("Join", e)
	}
	all := "16 x; any /x 0, // 0, xx 0, / 0, xxx 0, xx/ 0, x/x 0, x// 0, /xx 0, /x/ 0, //x 0, /// 0, xxxx 0, //// 0, x/ 0"
	if n, e := metre.Count(read(t, all)); n != 1<<62 || e != api.OK {
		t.Error("Count", n, e)
	}
	if n, _ := metre.Count(read(t, strings.Replace(all, "16 x", "15 x", 1)+"; end x 0, / 0, xx 0")); n != 1<<62 {
		t.Error("just as many", n)
	}
	if n, _ := metre.Count(read(t, strings.Replace(all, "16 x", "15 x", 1)+"; end x 0, / 0")); n != 3<<60 {
		t.Error("some fewer", n)
	}
	if cost, n, e := metre.Least(read(t, "16 x; any / 0, xx 0, x/ 0, /x 0, // 0"), strings.Repeat("x", 24)); e != api.OK || cost != 0 || n != 12870 {
		t.Error("Least", cost, n, e)
	}
	m := read(t, "5 iamb; any spondee 1, pyrrhic 1; 1 trochee 1; end x 1; break 2 3")
	for signs, want := range map[string][2]int{"/xx/x/x/x/": {1, 1}, "x/x/x/x/x/x": {1, 1}, "xxxxxxxxxx": {5, 1}, "x/x/x/x/x/": {0, 1}} {
		if a, b, e := metre.Least(m, signs); a != want[0] || b != want[1] || e != api.OK {
			t.Errorf("Least of %q: %d, %d, %v", signs, a, b, e)
		}
	}
	p, e := metre.First(read(t, "2 iamb; any / 1"), "//")
	if e != api.OK || !samePattern(p, api.Pattern{Signs: "//", Cost: 2, Choice: []int{1, 1, 0}}) {
		t.Error("First", p, e)
	}
	for range metre.Patterns(m) {
		break
	}
}
