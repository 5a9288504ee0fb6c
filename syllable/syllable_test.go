package syllable_test

import (
	"slices"
	"strings"
	"testing"

	"canticle/api"
	"canticle/phone"
	"canticle/syllable"
)

type chance uint64

func (c *chance) less(n int) int {
	*c = *c*6364136223846793005 + 1442695040888963407
	return int(uint64(*c)>>33) % n
}

func (c *chance) of(l ...string) string { return l[c.less(len(l))] }

func phones(s string) []api.Phone {
	l, bad := phone.Read(s)
	if bad.Err != api.OK {
		panic(s)
	}
	return l
}

func vowel(p api.Phone) bool { return phone.Sonority(p) == 7 }

// onset is the chapter's list, kind by kind.
func onset(l []api.Phone) bool {
	text := ""
	for _, p := range l {
		if !phone.Is(p) || vowel(p) || p.Rune == 0x14B {
			return false
		}
		text += string(p.Rune)
		if p.Long {
			text += ":"
		}
	}
	switch {
	case len(l) <= 1:
		return true
	case strings.Contains(text, ":"):
		return false
	case len(l) == 2 && phone.Sonority(l[1])-phone.Sonority(l[0]) >= 2:
		return true
	case len(l) == 2:
		return slices.Contains([]string{"sp", "st", "sk", "sm", "sn", "sf", "sl", "sw"}, text)
	case len(l) == 3:
		return text[0] == 's' && strings.Contains("ptk", text[1:2]) && strings.Contains("lrjw", text[2:])
	}
	return false
}

// P11.1
func TestOnset(t *testing.T) {
	var all []api.Phone
	for r := range phone.All() {
		all = append(all, api.Phone{Rune: r}, api.Phone{Rune: r, Long: true})
	}
	all = append(all, api.Phone{Rune: 'a', Glide: 'i'}, api.Phone{}, api.Phone{Rune: 't', Glide: 'i'}, api.Phone{Rune: 'c'})
	check := func(l ...api.Phone) {
		if syllable.Onset(l) != onset(l) {
			t.Errorf("Onset(%v) = %v", l, !onset(l))
		}
	}
	check()
	for _, p := range all {
		check(p)
		for _, q := range all {
			check(p, q)
			check(api.Phone{Rune: 's'}, p, q)
			check(p, api.Phone{Rune: 't'}, q)
			check(p, q, api.Phone{Rune: 'r'})
			check(api.Phone{Rune: 's'}, p, q, api.Phone{Rune: 'r'})
		}
	}
}

// split tries all places at which the syllables of a row may begin.
func split(l []api.Phone) []api.Syllable {
	var out []api.Syllable
	last := -1
	for k, p := range l {
		if !vowel(p) {
			continue
		}
		s := api.Syllable{Nucleus: k, To: len(l)}
		if last >= 0 {
			s.From = last + 1
			for !onset(l[s.From:k]) {
				s.From++
			}
			out[len(out)-1].To = s.From
		}
		out, last = append(out, s), k
	}
	for k, s := range out {
		out[k].Heavy = l[s.Nucleus].Long || l[s.Nucleus].Glide != 0 || s.To-s.Nucleus > 1
	}
	return out
}

func (c *chance) row(n int) []api.Phone {
	text := ""
	for range c.less(n) {
		text += c.of("a", "i", "o", "a\u02d0", "ai\u032f", "\u0259", "t", "s", "s", "r", "l", "n", "k", "p", "\u014b", "t\u02d0", "w", "\u02a7")
	}
	return phones(text)
}

// P11.2, P11.9
func TestSplit(t *testing.T) {
	c := chance(1)
	for range 20000 {
		l := c.row(12)
		want := split(l)
		got, e := syllable.Split(l)
		if len(want) == 0 {
			if e != api.ErrNucleus || len(got) > 0 {
				t.Fatalf("Split(%v): %v, %v", l, got, e)
			}
			continue
		}
		if e != api.OK || !slices.Equal(got, want) {
			t.Fatalf("Split(%v): %v, %v, want %v", l, got, e, want)
		}
		if e := syllable.May(l, got); e != api.OK {
			t.Fatalf("May of Split(%v): %v", l, e)
		}
		for k, s := range got[1:] {
			if !onset(l[s.From:s.Nucleus]) || s.From > got[k].Nucleus+1 && onset(l[s.From-1:s.Nucleus]) {
				t.Fatalf("Split(%v): %v", l, got)
			}
		}
	}
	a, tt := phones("a"), phones("t")
	for _, x := range []struct {
		l    []api.Phone
		want api.Errno
	}{
		{nil, api.ErrNucleus}, {phones("st"), api.ErrNucleus}, {[]api.Phone{{}}, api.ErrArg}, {append(phones("a"), api.Phone{Rune: 'c'}), api.ErrArg}, {append(phones("t"), api.Phone{Rune: 'c'}), api.ErrArg},
		{slices.Repeat(a, 64), api.OK}, {slices.Repeat(a, 65), api.ErrLong}, {append(slices.Repeat(a, 65), api.Phone{}), api.ErrArg},
		{append(slices.Repeat(tt, 127), a[0]), api.OK}, {append(slices.Repeat(tt, 128), a[0]), api.ErrLong}, {slices.Repeat(tt, 129), api.ErrLong}, {slices.Repeat([]api.Phone{{}}, 129), api.ErrLong}, {slices.Repeat(tt, 128), api.ErrNucleus},
	} {
		if got, e := syllable.Split(x.l); e != x.want || (len(got) > 0) != (e == api.OK) {
			t.Errorf("Split of %d: %v, want %v", len(x.l), e, x.want)
		}
	}
}

// P11.3
func TestMay(t *testing.T) {
	l := phones("antasa\u02d0i")
	s := func(from, nucleus, to, stress int, heavy bool) api.Syllable {
		return api.Syllable{From: from, Nucleus: nucleus, To: to, Stress: stress, Heavy: heavy}
	}
	good := []api.Syllable{s(0, 0, 3, 1, true), s(3, 3, 4, 0, false), s(4, 5, 6, 2, true), s(6, 6, 7, 2, false)}
	if e := syllable.May(l, good); e != api.OK {
		t.Fatal(e)
	}
	for k, x := range []struct {
		place int
		s     api.Syllable
		want  api.Errno
	}{
		{0, s(1, 1, 3, 0, true), api.ErrArg}, {0, s(-1, 0, 3, 0, true), api.ErrArg}, {1, s(2, 3, 4, 0, false), api.ErrArg}, {1, s(3, 2, 4, 0, false), api.ErrArg}, {1, s(3, 3, 3, 0, false), api.ErrArg}, {1, s(3, 4, 4, 0, false), api.ErrArg}, {3, s(6, 6, 8, 0, true), api.ErrArg}, {3, s(6, 6, 1<<62, 0, true), api.ErrArg}, {3, s(6, -1<<63, 7, 0, true), api.ErrArg},
		{1, s(3, 3, 6, 9, true), api.ErrNucleus}, {2, s(4, 4, 6, 0, true), api.ErrNucleus}, {2, s(4, 4, 5, 0, false), api.ErrNucleus}, {2, s(4, 6, 7, 0, false), api.ErrNucleus},
		{1, s(3, 3, 4, 0, true), api.ErrArg}, {0, s(0, 0, 3, 0, false), api.ErrArg}, {1, s(3, 3, 4, 3, false), api.ErrArg}, {1, s(3, 3, 4, -1, false), api.ErrArg}, {2, s(4, 5, 6, 2, false), api.ErrArg},
	} {
		bad := slices.Clone(good)
		bad[x.place] = x.s
		if e := syllable.May(l, bad); e != x.want {
			t.Errorf("%d: May = %v, want %v", k, e, x.want)
		}
	}
	for k, x := range []struct {
		l    []api.Phone
		s    []api.Syllable
		want api.Errno
	}{
		{l, good[:3], api.ErrArg}, {l, nil, api.ErrNucleus}, {nil, nil, api.ErrNucleus}, {nil, good, api.ErrArg}, {append(phones("a"), api.Phone{}), nil, api.ErrArg},
		{slices.Repeat(phones("t"), 129), nil, api.ErrLong}, {[]api.Phone{{}}, make([]api.Syllable, 65), api.ErrLong}, {[]api.Phone{{}}, make([]api.Syllable, 64), api.ErrArg},
		{phones("rta"), []api.Syllable{s(0, 2, 3, 0, false)}, api.OK}, {phones("arta"), []api.Syllable{s(0, 0, 1, 0, false), s(1, 3, 4, 0, false)}, api.OK},
	} {
		if e := syllable.May(x.l, x.s); e != x.want {
			t.Errorf("%d: May = %v, want %v", k, e, x.want)
		}
	}
}

// P11.4, P11.11
func TestStress(t *testing.T) {
	c := chance(2)
	for range 5000 {
		l, e := syllable.Split(c.row(14))
		if e != api.OK {
			continue
		}
		for k := range l {
			l[k].Stress = c.less(9) - 3
		}
		before := slices.Clone(l)
		for rule := api.RuleFirst; rule <= api.RuleLatin; rule++ {
			n := len(l)
			at := map[int]int{api.RuleFirst: 0, api.RuleLast: n - 1, api.RuleBefore: n - 2, api.RuleLatin: n - 2}[rule]
			if rule == api.RuleLatin && n > 2 && !l[n-2].Heavy {
				at = n - 3
			}
			at = max(at, 0)
			want := slices.Clone(l)
			for k := range want {
				want[k].Stress = 0
				if k == at {
					want[k].Stress = 2
				}
			}
			got, e := syllable.Stress(l, rule)
			if e != api.OK || !slices.Equal(got, want) {
				t.Fatalf("Stress(%v, %d): %v, %v", l, rule, got, e)
			}
			if again, _ := syllable.Stress(got, rule); !slices.Equal(again, got) {
				t.Fatalf("Stress twice: %v", again)
			}
			if syllable.Weight(got) != syllable.Weight(l) || syllable.Main(got) != at {
				t.Fatalf("Weight, Main of %v", got)
			}
		}
		if !slices.Equal(l, before) {
			t.Fatal("what was handed in has changed")
		}
	}
	one := make([]api.Syllable, 65)
	odd := []api.Syllable{{From: -7, Nucleus: 9, To: 3, Stress: 77, Heavy: true}}
	if got, e := syllable.Stress(odd, 1); e != api.OK || got[0] != (api.Syllable{From: -7, Nucleus: 9, To: 3, Stress: 2, Heavy: true}) {
		t.Error("other fields stay", got, e)
	}
	for _, x := range []struct {
		n, rule int
		want    api.Errno
	}{{0, 1, api.ErrArg}, {1, 0, api.ErrArg}, {1, 5, api.ErrArg}, {65, 0, api.ErrArg}, {65, 1, api.ErrLong}, {64, 4, api.OK}, {1, -1 << 63, api.ErrArg}} {
		if got, e := syllable.Stress(one[:x.n], x.rule); e != x.want || (len(got) > 0) != (e == api.OK) {
			t.Errorf("Stress of %d by %d: %v", x.n, x.rule, e)
		}
	}
}

// P11.4
func TestLay(t *testing.T) {
	l := phones("antasa\u02d0i")
	base, _ := syllable.Split(l)
	for rule := 1; rule <= 4; rule++ {
		want, _ := syllable.Stress(base, rule)
		if got, e := syllable.Lay(l, nil, rule); e != api.OK || !slices.Equal(got, want) {
			t.Errorf("Lay by %d: %v, %v", rule, got, e)
		}
	}
	got, e := syllable.Lay(l, []int{1, 0, 2, 2}, 3)
	want := slices.Clone(base)
	want[0].Stress, want[2].Stress, want[3].Stress = 1, 2, 2
	if e != api.OK || !slices.Equal(got, want) {
		t.Error("Lay by numbers:", got, e)
	}
	for k, x := range []struct {
		l      []api.Phone
		stress []int
		rule   int
		want   api.Errno
	}{
		{nil, nil, 0, api.ErrArg}, {l, []int{0, 0, 0}, 1, api.ErrArg}, {l, []int{0, 0, 0, 3}, 1, api.ErrArg}, {l, []int{-1, 0, 0, 0}, 1, api.ErrArg}, {l, []int{0, 0, 0, 0}, 5, api.ErrArg}, {phones("t"), []int{0}, 1, api.ErrNucleus}, {nil, nil, 1, api.ErrNucleus}, {[]api.Phone{{}}, nil, 1, api.ErrArg}, {slices.Repeat(l, 20), nil, 1, api.ErrLong}, {slices.Repeat(phones("a"), 65), nil, 1, api.ErrLong}, {l, []int{0, 0, 0, 0, 0}, 1, api.ErrArg},
	} {
		if got, e := syllable.Lay(x.l, x.stress, x.rule); e != x.want || len(got) > 0 {
			t.Errorf("%d: Lay = %v, %v, want %v", k, got, e, x.want)
		}
	}
}

// P11.5, P11.8
func TestTold(t *testing.T) {
	c := chance(3)
	var last []api.Syllable
	for range 3000 {
		var l []api.Syllable
		weight, main, text, right := 0, -1, "", true
		for k := range c.less(5) {
			s := api.Syllable{Stress: c.less(3), Heavy: c.less(2) == 0, From: c.less(3)}
			if c.less(12) == 0 {
				s.Stress, right = []int{-1, 3, 1 << 40}[c.less(3)], false
			} else {
				text += "x\\/"[s.Stress : s.Stress+1]
			}
			if weight++; s.Heavy {
				weight++
			}
			if s.Stress == 2 && main < 0 {
				main = k
			}
			l = append(l, s)
		}
		if !right {
			text = ""
		}
		p, e := syllable.Pattern(l)
		if syllable.Weight(l) != weight || syllable.Main(l) != main || p != text || right != (e == api.OK) || !right && e != api.ErrArg {
			t.Fatalf("%v: %d, %d, %q, %v", l, syllable.Weight(l), syllable.Main(l), p, e)
		}
		alike := len(l) == len(last)
		for k := range min(len(l), len(last)) {
			alike = alike && l[k].Heavy == last[k].Heavy && l[k].Stress == last[k].Stress
		}
		if syllable.Alike(l, last) != alike {
			t.Fatalf("Alike(%v, %v) = %v", l, last, !alike)
		}
		last = l
	}
	if p, e := syllable.Pattern(nil); p != "" || e != api.OK || syllable.Weight(nil) != 0 || syllable.Main(nil) != -1 || !syllable.Alike(nil, []api.Syllable{}) {
		t.Error("of none", p, e)
	}
}

// P11.6, P11.10, P11.12
func TestPrint(t *testing.T) {
	c := chance(4)
	for range 10000 {
		var l []api.Phone
		var s []api.Syllable
		want := ""
		for k := range 1 + c.less(4) {
			x := api.Syllable{From: len(l), Stress: c.less(3)}
			ahead, v, behind := c.of("", "t", "rt", "\u014b", "s\u02d0"), c.of("a", "i", "a\u02d0", "oi\u032f"), c.of("", "", "t", "rk")
			l = append(l, phones(ahead)...)
			x.Nucleus = len(l)
			l = append(l, phones(v+behind)...)
			x.To, x.Heavy = len(l), len(v) > 1 || behind != ""
			if len(phones(v+behind)) != len(l)-x.Nucleus {
				t.Fatal("a test that is wrong")
			}
			s = append(s, x)
			sign := []string{".", "\u02cc", "\u02c8"}[x.Stress]
			if k == 0 && x.Stress == 0 {
				sign = ""
			}
			want += sign + ahead + v + behind
		}
		got, e := syllable.Print(l, s)
		if e != api.OK || got != want {
			t.Fatalf("Print(%v, %v): %q, %v, want %q", l, s, got, e, want)
		}
		a, b, bad := syllable.Read(got)
		if bad.Err != api.OK || !slices.Equal(a, l) || !slices.Equal(b, s) {
			t.Fatalf("Read(%q): %v, %v, %v", got, a, b, bad)
		}
		signs := 0
		for _, r := range got {
			if strings.ContainsRune(".\u02c8\u02cc", r) {
				signs++
			}
		}
		if s[0].Stress == 0 {
			signs++
		}
		if signs != len(s) {
			t.Fatalf("%q has %d signs", got, signs)
		}
	}
	for _, x := range []struct {
		l    []api.Phone
		s    []api.Syllable
		want api.Errno
	}{{nil, nil, api.ErrNucleus}, {phones("a"), []api.Syllable{{To: 2}}, api.ErrArg}, {slices.Repeat(phones("a"), 129), nil, api.ErrLong}} {
		if got, e := syllable.Print(x.l, x.s); got != "" || e != x.want {
			t.Errorf("Print(%v, %v): %q, %v", x.l, x.s, got, e)
		}
	}
}

// wrong is the first thing that is wrong with a text, found by what stands ahead of each place.
func wrong(text string) api.Spot {
	spot := func(e api.Errno, at int) api.Spot { return api.Spot{Err: e, At: at} }
	all, vowels, since, nucleus := 0, 0, 0, 0
	signAhead := false
	for at := 0; at < len(text); {
		sign := ""
		for _, x := range []string{".", "\u02c8", "\u02cc"} {
			if strings.HasPrefix(text[at:], x) {
				sign = x
			}
		}
		if sign != "" {
			switch {
			case sign == "." && at == 0 || signAhead:
				return spot(api.ErrSyllable, at)
			case since > 0 && nucleus == 0:
				return spot(api.ErrNucleus, at)
			case at+len(sign) == len(text):
				return spot(api.ErrSyllable, at)
			}
			since, nucleus, signAhead = 0, 0, true
			at += len(sign)
			continue
		}
		n := 0
		for x, p := range phone.Each(text[at:]) {
			n = x.To
			switch {
			case all == api.MaxPhones:
				return spot(api.ErrLong, at)
			case vowel(p) && nucleus > 0:
				return spot(api.ErrNucleus, at)
			case vowel(p) && vowels == api.MaxSyllables:
				return spot(api.ErrLong, at)
			}
			if vowel(p) {
				vowels++
				nucleus++
			}
			break
		}
		if n == 0 {
			return spot(api.ErrPhone, at)
		}
		all++
		since++
		signAhead = false
		at += n
	}
	if nucleus == 0 {
		return spot(api.ErrNucleus, len(text))
	}
	return api.Spot{}
}

// P11.7, P11.10
func TestRead(t *testing.T) {
	c := chance(5)
	good := 0
	for range 30000 {
		text := ""
		for range c.less(10) {
			text += c.of("a", "t", "a", "t", ".", "\u02c8", "\u02cc", "s\u02d0", "ai\u032f", "\u02d0", "\xff", "i", "q")
		}
		want := wrong(text)
		l, s, bad := syllable.Read(text)
		if bad != want {
			t.Fatalf("Read(%q): %v, want %v", text, bad, want)
		}
		if bad.Err != api.OK {
			if len(l)+len(s) > 0 {
				t.Fatalf("Read(%q): %v, %v", text, l, s)
			}
			continue
		}
		good++
		if got, e := syllable.Print(l, s); got != text || e != api.OK {
			t.Fatalf("Print of Read(%q): %q, %v", text, got, e)
		}
	}
	if good < 1000 {
		t.Error("right ones:", good)
	}
	many := strings.Repeat("a.", 63) + "a"
	for text, want := range map[string]api.Spot{
		"\u02c8a.ta": {}, "a.ta": {}, ".a": {Err: api.ErrSyllable}, "a.": {Err: api.ErrSyllable, At: 1}, "a..ta": {Err: api.ErrSyllable, At: 2}, "t.a": {Err: api.ErrNucleus, At: 1}, "": {Err: api.ErrNucleus}, "a\u02c8\u02ccta": {Err: api.ErrSyllable, At: 3}, "\u02c8": {Err: api.ErrSyllable}, "ae": {Err: api.ErrNucleus, At: 1}, "a.t": {Err: api.ErrNucleus, At: 3}, "a\u02c8ta\xff": {Err: api.ErrPhone, At: 5},
		many: {}, many + ".": {Err: api.ErrSyllable, At: 127}, many + "..": {Err: api.ErrSyllable, At: 128}, many + ".t": {Err: api.ErrNucleus, At: 129}, many + ".ta": {Err: api.ErrLong, At: 129}, many + "e": {Err: api.ErrNucleus, At: 127}, many + ".e": {Err: api.ErrLong, At: 128},
		strings.Repeat("t", 127) + "a": {}, strings.Repeat("t", 128) + "a": {Err: api.ErrLong, At: 128}, strings.Repeat("t", 128) + ".": {Err: api.ErrNucleus, At: 128}, strings.Repeat("t", 128) + "q": {Err: api.ErrPhone, At: 128}, strings.Repeat("t", 128): {Err: api.ErrNucleus, At: 128},
	} {
		if _, _, bad := syllable.Read(text); bad != want || wrong(text) != want {
			t.Errorf("Read(%.20q): %v, want %v", text, bad, want)
		}
	}
}

// The examples of the chapter.
func TestExamples(t *testing.T) {
	for row, want := range map[string]string{"astra": "a.stra", "anta": "an.ta", "a\u014ba": "a\u014b.a", "atta": "at.ta", "akstra": "ak.stra", "at\u02d0a": "a.t\u02d0a", "ast\u02d0a": "as.t\u02d0a"} {
		l := phones(row)
		s, e := syllable.Split(l)
		if got, _ := syllable.Print(l, s); e != api.OK || got != want {
			t.Errorf("Split(%q): %q, %v", row, got, e)
		}
	}
	l, s, _ := syllable.Read("\u02ccka.ta\u02c8ko")
	if p, _ := syllable.Pattern(s); p != "\\x/" || len(l) != 6 {
		t.Error("Pattern", p)
	}
	_, s, _ = syllable.Read("an.ta")
	if syllable.Weight(s) != 3 || syllable.Main(s) != -1 {
		t.Error("Weight, Main")
	}
}
