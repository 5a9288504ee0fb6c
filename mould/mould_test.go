package mould_test

import (
	"cmp"
	"regexp"
	"slices"
	"strconv"
	"strings"
	"testing"

	"canticle/api"
	"canticle/metre"
	"canticle/mould"
	"canticle/scheme"
)

type chance uint64

func (c *chance) less(n int) int {
	*c = *c*6364136223846793005 + 1442695040888963407
	return int(uint64(*c)>>33) % n
}

func (c *chance) of(l ...string) string { return l[c.less(len(l))] }

func read(t *testing.T, text string) *mould.Form {
	t.Helper()
	f, bad := mould.Read(text)
	if bad != (api.Spot{}) || f == nil {
		t.Fatalf("Read(%q): %v", text, bad)
	}
	return f
}

const (
	number = `(?:0|[1-9][0-9]*)`
	item   = `(?:x|[a-wyz]|[A-WYZ][1-9])(?:[:'][a-z]|[/^@~]` + number + `)*`
)

var (
	titles  = regexp.MustCompile(`(?s)^form .+$`)
	metres  = regexp.MustCompile(`(?s)^metre [a-z] .*$`)
	stanzas = regexp.MustCompile(`^stanza(?: ` + item + `)+$`)
	rounds  = regexp.MustCompile(`^round (` + number + `) (` + number + `) (` + number + `)(?: ` + item + `)+$`)
	items   = regexp.MustCompile(item)
	marks   = regexp.MustCompile(`[:'][a-z]|[/^@~]` + number)
)

// fault is something that is wrong: when it is found (twice the byte), which goes first of several then.
type fault struct {
	when, rank int
	spot       api.Spot
}

const letters = "abcdefghijklmnopqrstuvwyz"

// line is a stanza line that is right: how many items, whether it is the round line.
type line struct {
	n     int
	round bool
}

// wrong is the first thing that is wrong with a text.
func wrong(text string) api.Spot {
	said, titled, isRound := map[string]bool{}, false, false
	least, most, shift := 0, 0, 0
	var all []line
	size := func(rounds int) int {
		n := 0
		for _, l := range all {
			if l.round {
				n += rounds * l.n
			} else {
				n += l.n
			}
		}
		return n
	}
	from := 0
	for _, own := range strings.SplitAfter(text, "\n") {
		start := from
		from += len(own)
		body := strings.TrimSuffix(own, "\n")
		if body == "" || body[0] == '#' {
			continue
		}
		var faults []fault
		found := func(when, rank int, e api.Errno, at int) {
			faults = append(faults, fault{when, rank, api.Spot{Err: e, At: start + at}})
		}
		end := 2 * len(body)
		var whole *regexp.Regexp
		var sample []string
		switch c := body[0]; {
		case !titled:
			whole, sample, titled = titles, []string{"form x"}, true
		case c == 'm' && len(all) == 0:
			whole, sample = metres, []string{"metre a "}
		case c == 's':
			whole, sample = stanzas, []string{"stanza a", "1"}
		case c == 'r' && !isRound:
			whole, sample, isRound = rounds, []string{"round 1 1 1 a"}, true
		default:
			return api.Spot{Err: api.ErrForm, At: start}
		}
		goes := func(p string) bool {
			for _, s := range append(sample, " 1 1 a", "1 1 1 a") {
				for k := range len(s) + 1 {
					if whole.MatchString(p + s[k:]) {
						return true
					}
				}
			}
			return false
		}
		right := body
		for n := 1; n <= len(body); n++ {
			if !goes(body[:n]) {
				found(2*n-2, 0, api.ErrForm, n-1)
				right = body[:n-1]
				break
			}
		}
		if right == body && !whole.MatchString(body) {
			found(end, 0, api.ErrForm, len(body))
		}
		switch whole {
		case metres:
			if len(right) > 6 {
				if said[right[6:7]] {
					found(12, 1, api.ErrSaid, 6)
				}
				said[right[6:7]] = true
			}
			if len(right) > 7 {
				if _, bad := metre.Read(body[8:]); bad.Err != api.OK {
					found(end, 2, bad.Err, 8+bad.At)
				}
			}
		case rounds:
			var l []int
			for k, x := range regexp.MustCompile(number).FindAllStringIndex(right, 3) {
				n, _ := strconv.Atoi(right[x[0]:min(x[1], x[0]+6)])
				if n > 512 || k == 1 && n < l[0] {
					found(2*x[1]-1, 0, api.ErrArg, x[0])
				}
				l = append(l, n)
			}
			if len(l) == 3 {
				least, most, shift = l[0], l[1], l[2]
			}
		}
		if whole == stanzas || whole == rounds {
			head := strings.Index(right+" ", " ")
			if whole == rounds {
				if x := regexp.MustCompile(`^round ` + number + ` ` + number + ` ` + number).FindStringIndex(right); x != nil {
					head = x[1]
				} else {
					head = len(right)
				}
			}
			all = append(all, line{0, whole == rounds})
			for _, x := range items.FindAllStringIndex(right[head:], -1) {
				at, to := head+x[0], head+x[1]
				i := len(all) - 1
				low := size(least)
				if all[i].round {
					low = size(1)
				}
				had, has := map[byte]int{}, map[string]bool{}
				back := -1
				for _, y := range marks.FindAllStringIndex(right[at:to], -1) {
					sign, arg, place := right[at+y[0]], right[at+y[0]+1:at+y[1]], at+y[0]
					if had[sign]++; had[sign] > 1 && sign != '~' || had[sign] > 4 {
						found(2*place, 0, api.ErrForm, place)
					}
					n, _ := strconv.Atoi(arg[:min(len(arg), 6)])
					switch sign {
					case ':':
						if !said[arg] {
							found(2*place+2, 1, api.ErrSaid, place+1)
						}
					case '/', '^', '@', '~':
						if n < 1 || n > 512 || sign == '~' && has[arg] {
							found(2*(at+y[1])-1, 0, api.ErrArg, place+1)
						}
						if sign == '~' {
							has[arg] = true
						}
						if sign != '/' && n > low && back < 0 {
							back = place
						}
					}
				}
				if to < len(body) && body[to] != ' ' {
					if n := had[body[to]]; n > 3 || n > 0 && body[to] != '~' {
						found(2*to, 0, api.ErrForm, to)
					}
					continue
				}
				if back >= 0 && !(all[i].round && most == 0) {
					found(2*to, 3, api.ErrBack, back)
				}
				times := 0
				if all[i].round {
					times = most - 1
				} else if isRound {
					times = most
				}
				c := strings.Index(letters, strings.ToLower(right[at:at+1]))
				if times > 0 && c >= 0 && c+times*shift > 24 {
					found(end, 5, api.ErrRange, at)
				}
				all[i].n++
			}
			if size(most) > 512 {
				found(end, 4, api.ErrLong, 0)
			}
		}
		slices.SortStableFunc(faults, func(a, b fault) int { return cmp.Or(cmp.Compare(a.when, b.when), cmp.Compare(a.rank, b.rank)) })
		if len(faults) > 0 {
			return faults[0].spot
		}
	}
	if !titled || len(all) == 0 {
		return api.Spot{Err: api.ErrForm, At: len(text)}
	}
	return api.Spot{}
}

// line makes a stanza line by chance.
func (c *chance) line() string {
	s := ""
	for range 1 + c.less(4) {
		s += " " + c.of("a", "b", "x", "A1", "z", "y", "w")
		for range c.less(3) {
			s += c.of(":q", "/3", "^1", "@2", "~1", "~2", "'c", "@1", "~3", "/12")
		}
		if c.less(12) == 0 {
			s += c.of(" X", " A", " A0", " ", ":r", "/0", "^", "@01", "~3~4", "^9", "/512", "/513", "'", "'A", "!", "~99999999999999999999")
		}
	}
	return s
}

// P18.1, P18.6
func TestRead(t *testing.T) {
	c := chance(1)
	good := 0
	for range 30000 {
		text := c.of("", "", "", "\n# x\n") + c.of("form x y", "form x", "form x", "form ", "for", "form \xff") + "\n"
		for range c.less(3) {
			text += c.of("metre q 2 iamb", "metre r x/", "metre q iam", "metre q ", "metre Q x", "metre", "# x", "") + c.of("\n", "\n", "\n", "\n\n")
		}
		for range c.less(4) {
			switch c.less(4) {
			case 0:
				text += "round " + c.of("0", "1", "2", "3", "01", "513", "") + " " + c.of("0", "1", "2", "4", "99", "1a") + " " + c.of("0", "1", "12", "-1", "600") + c.line()
			case 1, 2:
				text += "stanza" + c.line()
			default:
				text += c.of("", "#", "metre q x", "stanza", "round", "!", "stanza a")
			}
			text += c.of("\n", "\n", "\n", "", " \n")
		}
		want := wrong(text)
		f, bad := mould.Read(text)
		if bad != want || (f == nil) != (bad.Err != api.OK) {
			t.Fatalf("Read(%q): %v, want %v", text, bad, want)
		}
		if bad.Err != api.OK {
			continue
		}
		good++
		again := read(t, f.Print())
		if again.Print() != f.Print() || again.Name() != f.Name() {
			t.Fatalf("%q there and back: %q", text, f.Print())
		}
		told(t, f)
		least, most := f.Rounds()
		for n := least; n <= min(most, least+3); n++ {
			a, _ := f.Lines(n)
			b, _ := again.Lines(n)
			if !slices.EqualFunc(a, b, same) {
				t.Fatalf("%q there and back: %v, %v", text, a, b)
			}
		}
	}
	if good < 400 {
		t.Error("right ones:", good)
	}
}

func same(a, b api.Demand) bool {
	return slices.Equal(a.Has, b.Has) && a.Stanza == b.Stanza && a.Rhyme == b.Rhyme && a.Metre == b.Metre && a.Syllables == b.Syllables && a.Same == b.Same && a.Ends == b.Ends && a.Begins == b.Begins
}

// demands are what a form's own text says of its lines.
func demands(f *mould.Form, n int) []api.Demand {
	var out []api.Demand
	names := ""
	stanza, shift := 0, 0
	for _, l := range strings.Split(f.Print(), "\n") {
		w := strings.Split(l, " ")
		times, by, from := 1, 0, 1
		switch w[0] {
		case "metre":
			names += w[1]
			continue
		case "round":
			times, from = n, 4
			by, _ = strconv.Atoi(w[3])
		case "stanza":
		default:
			continue
		}
		for range times {
			for _, x := range w[from:] {
				k := len(out)
				d := api.Demand{Stanza: stanza, Metre: -1, Same: -1, Ends: -1}
				d.Rhyme.Class = strings.Index(letters, strings.ToLower(x[:1]))
				if d.Rhyme.Class >= 0 {
					d.Rhyme.Class += shift
				}
				if x[0] < 'a' {
					d.Rhyme.Refrain = int(x[1] - '0')
				}
				for _, m := range marks.FindAllString(x, -1) {
					v, _ := strconv.Atoi(m[1:])
					switch m[0] {
					case ':':
						d.Metre = strings.Index(names, m[1:])
					case '/':
						d.Syllables = v
					case '^':
						d.Same = k - v
					case '@':
						d.Ends = k - v
					case '~':
						d.Has = append(d.Has, k-v)
					case '\'':
						d.Begins = rune(m[1])
					}
				}
				out = append(out, d)
			}
			stanza++
			shift += by
		}
	}
	return out
}

// P18.2 to P18.4, P18.7, P18.8
func told(t *testing.T, f *mould.Form) {
	t.Helper()
	least, most := f.Rounds()
	sizes := map[int]int{}
	for n := least; n <= min(most, least+4); n++ {
		want := demands(f, n)
		l, e := f.Lines(n)
		size, g := f.Size(n)
		if e != api.OK || g != api.OK || size != len(want) || !slices.EqualFunc(l, want, same) {
			t.Fatalf("%q: Lines(%d): %v, %v, want %v", f.Print(), n, l, e, want)
		}
		k := 0
		for i, d := range f.Each(n) {
			if i != k || !same(d, want[k]) {
				t.Fatalf("%q: Each(%d): %d, %v", f.Print(), n, i, d)
			}
			k++
		}
		s, e := f.Scheme(n)
		if k != len(want) || e != api.OK || scheme.Check(s) != api.OK || len(s.Lines) != len(want) {
			t.Fatalf("%q: Scheme(%d): %v, %v", f.Print(), n, s, e)
		}
		at := 0
		for i, lines := range s.Stanzas {
			for range lines {
				if d := want[at]; d.Stanza != i || d.Rhyme != s.Lines[at] || d.Same >= at || d.Ends >= at || d.Same < -1 || d.Ends < -1 || slices.ContainsFunc(d.Has, func(h int) bool { return h < 0 || h >= at }) {
					t.Fatalf("%q: line %d: %v", f.Print(), at, d)
				}
				at++
			}
		}
		if _, ok := sizes[size]; !ok {
			sizes[size] = n
		}
	}
	for n := range 60 {
		k, ok := f.Fit(n)
		if want, is := sizes[n]; is && (!ok || k != want) || !is && ok && k <= min(most, least+4) || !ok && k != 0 {
			t.Fatalf("%q: Fit(%d): %d, %v", f.Print(), n, k, ok)
		}
	}
	for _, n := range []int{least - 1, most + 1, -1 << 63, 1<<63 - 1} {
		a, e := f.Size(n)
		b, g := f.Lines(n)
		c, h := f.Scheme(n)
		if e != api.ErrRange || g != api.ErrRange || h != api.ErrRange || a != 0 || len(b)+len(c.Lines)+len(c.Stanzas) > 0 {
			t.Fatalf("%q: %d rounds: %v, %v, %v", f.Print(), n, e, g, h)
		}
		for range f.Each(n) {
			t.Fatalf("%q: Each(%d)", f.Print(), n)
		}
	}
}

// P18.1: what is wrong, at which byte.
func TestWrong(t *testing.T) {
	spot := func(e api.Errno, at int) api.Spot { return api.Spot{Err: e, At: at} }
	many := "form x\nstanza" + strings.Repeat(" a", 512)
	for text, want := range map[string]api.Spot{
		"form": spot(180, 4), "form x\nstanza": spot(180, 13), "form x\nstanza a a:q": spot(181, 18), "form x\nstanza a^1": spot(182, 15), "form x\nround 3 2 0 a": spot(2, 15), "form x\nround 1 26 1 a": spot(5, 20), "form x\nstanza a/0": spot(2, 16),
		"": spot(180, 0), "\n": spot(180, 1), "#": spot(180, 1), "form x": spot(180, 6), "form x\n": spot(180, 7), "form \n": spot(180, 5), "form x\nmetre a x/\n": spot(180, 18), "stanza a": spot(180, 0), "form x\nform y\n": spot(180, 7), " form x": spot(180, 0),
		"form x\nmetre a x/\nmetre a x/": spot(181, 24), "form x\nmetre a iam": spot(131, 15), "form x\nmetre a ": spot(130, 15), "form x\nmetre a": spot(180, 14), "form x\nmetre a  2 iam": spot(131, 18), "form x\nstanza a\nmetre a x/": spot(180, 16), "form x\nmetre A x/": spot(180, 13),
		"form x\nstanza a\nround 0 1 0 a\nround 0 1 0 a": spot(180, 30), "form x\nround 0 1 0 a": {}, "form x\nround 0 0 0 a@9": {}, "form x\nround 0 1 0 a@9": spot(182, 20), "form x\nround 0 1 0 a\nstanza a@1": spot(182, 29), "form x\nround 1 1 0 a\nstanza a@1": {}, "form x\nround 1 3 0 a\nstanza a@2": spot(182, 29), "form x\nround 1 3 0 a a@1\nstanza a@2": {}, "form x\nround 1 3 0 a a@2": spot(182, 22),
		"form x\nround 1 24 1 a\nstanza a": {}, "form x\nround 1 25 1 a\nstanza x": {}, "form x\nround 1 25 1 a\nstanza x a": spot(5, 31), "form x\nround 0 0 512 z\nstanza z": {}, "form x\nround 0 1 512 z": {}, "form x\nround 0 2 512 x a": spot(5, 23), "form x\nround 0 512 0 z": {}, "form x\nround 0 513 0 z": spot(2, 15), "form x\nround 0 512 0 z\nstanza a": spot(3, 23), "form x\nround 0 512 0 z z": spot(3, 7), "form x\nround 0 512 513 z": spot(2, 19), "form x\nround 513 0 0 z": spot(2, 13), "form x\nround 0 99999999999999999999 0 z": spot(2, 15), "form x\nround 00 1 0 z": spot(180, 14), "form x\nround -1": spot(180, 13), "form x\nround 1": spot(180, 14), "form x\nround 2 1!": spot(2, 15),
		many: {}, many + " a": spot(3, 7), many + "\nstanza a": spot(3, len(many)+1), many + " a^513": spot(2, len(many)+3), many + " a^512": spot(3, 7), many + " a!": spot(180, len(many)+2), many + " a ": spot(180, len(many)+3),
		"form x\nstanza a:": spot(180, 16), "form x\nstanza a/01": spot(2, 16), "form x\nstanza a/1/2": spot(180, 17), "form x\nstanza a a~1~1": spot(2, 20), "form x\nstanza a a a a a a~1~2~3~4~5": spot(180, 33), "form x\nstanza a a a a a a~1~2~3~4": {}, "form x\nstanza a^1^1": spot(180, 17), "form x\nstanza a^1 !": spot(182, 15), "form x\nstanza a^1!": spot(180, 17), "form x\nstanza a^1@1": spot(182, 15), "form x\nstanza a a@1^2": spot(182, 19), "form x\nstanza a/512": {}, "form x\nstanza a/513": spot(2, 16), "form x\nstanza a'": spot(180, 16), "form x\nstanza a'B": spot(180, 16), "form x\nstanza X": spot(180, 14), "form x\nstanza A": spot(180, 15), "form x\nstanza A0": spot(180, 15), "form x\nstanza x1": spot(180, 15), "form x\nstanza a1": spot(180, 15), "form x\nstanza  a": spot(180, 14), "form x\nstanza a\r\n": spot(180, 15),
		strings.Repeat("\n", api.MaxText+1): spot(3, api.MaxText), strings.Repeat("\n", api.MaxText-15) + "form x\nstanza a": {},
	} {
		if f, bad := mould.Read(text); bad != want || (f == nil) != (bad.Err != api.OK) || len(text) < 5000 && wrong(text) != want {
			t.Errorf("Read(%.60q): %v, want %v (%v)", text, bad, want, wrong(text))
		}
	}
}

// The examples of the chapter.
func TestExamples(t *testing.T) {
	f := read(t, "form x y\nmetre q 2 iamb\nstanza a:q B2\nround 0 2 1 b'c/3^2 x@1~1")
	a, b := f.Rounds()
	if f.Name() != "x y" || a != 0 || b != 2 {
		t.Error(f.Name(), a, b)
	}
	if got := f.Print(); got != "form x y\nmetre q 2 iamb\nstanza a:q B2\nround 0 2 1 b/3^2'c x@1~1\n" {
		t.Errorf("%q", got)
	}
	l, _ := f.Lines(1)
	if len(l) != 4 || !same(l[2], api.Demand{Stanza: 1, Rhyme: api.Rhyme{Class: 1}, Metre: -1, Syllables: 3, Same: 0, Ends: -1, Begins: 'c'}) || !same(l[3], api.Demand{Stanza: 1, Rhyme: api.Rhyme{Class: -1}, Metre: -1, Same: -1, Ends: 2, Has: []int{2}}) || !same(l[1], api.Demand{Rhyme: api.Rhyme{Class: 1, Refrain: 2}, Metre: -1, Same: -1, Ends: -1}) {
		t.Error(l)
	}
	s, _ := f.Scheme(2)
	if p, _ := scheme.Print(s); p != "aB2 bx cx" {
		t.Error(p)
	}
	if n, ok := f.Fit(6); n != 2 || !ok {
		t.Error("Fit(6)", n, ok)
	}
	if n, ok := f.Fit(5); n != 0 || ok {
		t.Error("Fit(5)", n, ok)
	}
	m := f.Metres()
	if want, _ := metre.Read("2 iamb"); len(m) != 1 || !metre.Same(m[0], want) {
		t.Error("Metres", m)
	}
	m[0].Feet[0].Own = "xxx"
	l[3].Has[0] = 99
	if again, _ := f.Lines(1); f.Metres()[0].Feet[0].Own != "x/" || again[3].Has[0] != 2 {
		t.Error("lists are shared")
	}
}

// house is the chapter's table.
const house = `ballad|round 1 25 1 x/8 a/6 x/8 a/6
couplets|round 1 25 1 a:p a:p
ghazal|stanza a a@1|round 0 99 0 x a@2
haiku|stanza x/5 x/7 x/5
limerick|stanza a/8 a/8 b/5 b/5 a/8
ottava rima|stanza a:p b:p a:p b:p a:p b:p c:p c:p
pantoum|stanza a b a b|round 0 23 1 b^3 c b^3 c
petrarchan sonnet|stanza a:p b:p b:p a:p a:p b:p b:p a:p|stanza c:p d:p e:p c:p d:p e:p
sestina|stanza x x x x x x|round 5 5 0 x@1 x@7 x@4 x@8 x@7 x@9|stanza x@3~6 x@3~6 x@3~6
sonnet|stanza a:p b:p a:p b:p|stanza c:p d:p c:p d:p|stanza e:p f:p e:p f:p|stanza g:p g:p
terza rima|round 1 24 1 a:p b:p a:p|stanza a:p
triolet|stanza A1 B1 a A1^3 a b A1^6 B1^6
villanelle|stanza A1 b A2|stanza a b A1^5|stanza a b A2^6|stanza a b A1^6|stanza a b A2^6|stanza a b A1^6 A2^4`

// P18.5, P18.9
func TestHouse(t *testing.T) {
	var names []string
	for _, row := range strings.Split(house, "\n") {
		name, lines, _ := strings.Cut(row, "|")
		names = append(names, name)
		text := "form " + name + "\n"
		if strings.Contains(lines, ":p") {
			text += "metre p 5 iamb; any spondee 1, pyrrhic 1, trochee 1; end x 1\n"
		}
		text += strings.ReplaceAll(lines, "|", "\n")
		f, e := mould.Of(name)
		if e != api.OK || f.Name() != name || f.Print() != read(t, text).Print() {
			t.Errorf("Of(%q): %v", name, e)
			continue
		}
		told(t, f)
		if n, _ := f.Size(func() int { n, _ := f.Rounds(); return n }()); n < 1 {
			t.Errorf("%q has no lines", name)
		}
	}
	if got := slices.Collect(mould.House()); !slices.Equal(got, names) || !slices.IsSorted(got) || len(got) != 13 {
		t.Error("House", got)
	}
	for range mould.House() {
		break
	}
	for _, name := range []string{"ode", "", "Sonnet", "sonnet\n", "ballad "} {
		if f, e := mould.Of(name); f != nil || e != api.ErrNone {
			t.Errorf("Of(%q): %v", name, e)
		}
	}
	f, _ := mould.Of("sestina")
	l, _ := f.Lines(5)
	first := func(k int) int {
		for l[k].Ends >= 0 {
			k = l[k].Ends
		}
		return k
	}
	for s := range 6 {
		seen := map[int]bool{}
		for k := range 6 {
			seen[first(6*s+k)] = true
		}
		for k := range 6 {
			if !seen[k] {
				t.Errorf("the stanza %d lacks the word %d", s, k)
			}
		}
	}
	f, _ = mould.Of("terza rima")
	s, _ := f.Scheme(2)
	if p, _ := scheme.Print(s); p != "aba bcb c" {
		t.Error("terza rima", p)
	}
	f, _ = mould.Of("triolet")
	s, _ = f.Scheme(0)
	if p, _ := scheme.Print(s); p != "A1B1aA1abA1B1" {
		t.Error("triolet", p)
	}
}

// R4
func TestNil(t *testing.T) {
	var f *mould.Form
	_, a := f.Size(0)
	_, b := f.Lines(0)
	_, c := f.Scheme(0)
	d, e := f.Rounds()
	n, ok := f.Fit(0)
	if a != api.ErrNil || b != api.ErrNil || c != api.ErrNil || d+e+n != 0 || ok || f.Print()+f.Name() != "" || len(f.Metres()) > 0 {
		t.Error("a nil form", a, b, c)
	}
	for range f.Each(0) {
		t.Error("Each")
	}
}
