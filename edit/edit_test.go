package edit_test

import (
	"regexp"
	"slices"
	"strconv"
	"strings"
	"testing"

	"canticle/api"
	"canticle/edit"
	"canticle/runes"
)

type chance uint64

func (c *chance) less(n int) int {
	*c = *c*6364136223846793005 + 1442695040888963407
	return int(uint64(*c)>>33) % n
}

func (c *chance) of(l ...string) string { return l[c.less(len(l))] }

func (c *chance) text(n int) string {
	s := ""
	for range c.less(n) {
		s += c.of("a", "b", "\u00e9", "\u00e8", "\xff", "\xc3", "\xa9", "\xe2", "\x82", "\xac", "\u20ac", "\"")
	}
	return s
}

func keep(n int) api.Step { return api.Step{Keep: n} }

func drop(s string) api.Step { return api.Step{Drop: s} }

func put(s string) api.Step { return api.Step{Put: s} }

// change makes a change of a text by chance, in whatever form.
func (c *chance) change(s string) []api.Step {
	var l []api.Step
	for at := 0; at < len(s) || c.less(4) == 0; {
		n := min(1+c.less(3), len(s)-at)
		switch c.less(4) {
		case 0:
			l = append(l, put(c.of("x", "yz", "\u00e9", "\xa9", "\xc3")))
		case 1:
			if n > 0 {
				l = append(l, drop(s[at:at+n]))
				at += n
			}
		default:
			if n > 0 {
				l = append(l, keep(n))
				at += n
			}
		}
	}
	return l
}

// said is a change place by place: what it puts there, and whether the byte behind is dropped.
type said struct {
	puts  []string
	drops []bool
}

// say tells a change so, by its one form: all that is put between two kept rows is put where the first byte of them is dropped.
func say(c []api.Step, n int) said {
	x := said{make([]string, n+1), make([]bool, n)}
	at, gap := 0, 0
	for _, s := range c {
		if s.Keep > 0 {
			at += s.Keep
			gap = at
		}
		for range len(s.Drop) {
			x.drops[at] = true
			at++
		}
		x.puts[gap] += s.Put
	}
	return x
}

// form is the one form of what is said.
func (x said) form(s string) []api.Step {
	var l []api.Step
	for at := 0; at <= len(s); {
		if p := x.puts[at]; p != "" {
			l = append(l, put(p))
		}
		from := at
		for at < len(s) && x.drops[at] {
			at++
		}
		if at > from {
			l = append(l, drop(s[from:at]))
		}
		if at == len(s) {
			break
		}
		from = at
		for at < len(s) && !x.drops[at] && (at == from || x.puts[at] == "") {
			at++
		}
		l = append(l, keep(at-from))
		if at == len(s) && x.puts[at] == "" {
			break
		}
	}
	return l
}

func apply(t *testing.T, s string, c []api.Step) string {
	t.Helper()
	out, e := edit.Apply(s, c)
	if e != api.OK {
		t.Fatalf("Apply(%q, %v): %v", s, c, e)
	}
	return out
}

func made(s string, c []api.Step) string {
	out := ""
	for _, x := range c {
		out += s[:x.Keep] + x.Put
		s = s[x.Keep+len(x.Drop):]
	}
	return out
}

// P27.2, P27.3, P27.5, P27.7, P27.10, P27.11
func TestOne(t *testing.T) {
	c := chance(1)
	for range 20000 {
		s := c.text(7)
		l := c.change(s)
		before := slices.Clone(l)
		u := made(s, l)
		from, to, e := edit.Sizes(l)
		if from != len(s) || to != len(u) || e != api.OK {
			t.Fatalf("Sizes(%v): %d, %d, %v", l, from, to, e)
		}
		want := say(l, len(s)).form(s)
		p, e := edit.Plain(l)
		if !slices.Equal(p, want) || e != api.OK {
			t.Fatalf("Plain(%v): %v, want %v", l, p, want)
		}
		if apply(t, s, l) != u || apply(t, s, p) != u {
			t.Fatalf("Apply(%q, %v)", s, l)
		}
		back, e := edit.Invert(l)
		again, _ := edit.Invert(back)
		plain, _ := edit.Plain(back)
		if e != api.OK || apply(t, u, back) != s || !slices.Equal(again, p) || !slices.Equal(plain, back) {
			t.Fatalf("Invert(%v): %v", l, back)
		}
		x := say(l, len(s))
		for at := -1; at <= len(s)+1; at++ {
			for _, behind := range []bool{false, true} {
				want := 0
				for k := 0; k < at && k < len(s); k++ {
					want += len(x.puts[k])
					if !x.drops[k] {
						want++
					}
				}
				if at >= 0 && at <= len(s) && behind {
					want += len(x.puts[at])
				}
				k, e := edit.Move(l, at, behind)
				if at < 0 || at > len(s) {
					if k != 0 || e != api.ErrRange {
						t.Fatalf("Move(%v, %d): %d, %v", l, at, k, e)
					}
				} else if k != want || e != api.OK {
					t.Fatalf("Move(%v, %d, %v): %d, %v, want %d", l, at, behind, k, e, want)
				}
			}
		}
		text, e := edit.Print(l)
		read, bad := edit.Read(text)
		if e != api.OK || bad.Err != api.OK || !slices.Equal(read, l) {
			t.Fatalf("%v there and back: %q, %v, %v", l, text, read, bad)
		}
		if !slices.Equal(l, before) {
			t.Fatal("what was handed in has changed")
		}
	}
}

// P27.3, P27.10
func TestCompose(t *testing.T) {
	c := chance(2)
	for range 20000 {
		s := c.text(6)
		a := c.change(s)
		u := made(s, a)
		b := c.change(u)
		v := made(u, b)
		ab, e := edit.Compose(a, b)
		plain, _ := edit.Plain(ab)
		if e != api.OK || apply(t, s, ab) != v || !slices.Equal(plain, ab) {
			t.Fatalf("Compose(%v, %v): %v, %v", a, b, ab, e)
		}
		// It keeps just the bytes that both keep.
		x, y := say(a, len(s)), say(b, len(u))
		z := say(ab, len(s))
		at := 0
		for k := range len(s) {
			at += len(x.puts[k])
			if x.drops[k] {
				if !z.drops[k] {
					t.Fatalf("Compose(%v, %v): %v keeps %d", a, b, ab, k)
				}
				continue
			}
			if z.drops[k] != y.drops[at] {
				t.Fatalf("Compose(%v, %v): %v at %d", a, b, ab, k)
			}
			at++
		}
		d := c.change(v)
		bd, _ := edit.Compose(b, d)
		left, _ := edit.Compose(ab, d)
		right, _ := edit.Compose(a, bd)
		if !slices.Equal(left, right) {
			t.Fatalf("three put together: %v, %v, %v: %v, %v", a, b, d, left, right)
		}
		if from, _, _ := edit.Sizes(b); from != len(s) {
			if z, e := edit.Compose(b, a); len(s) != len(v) && (e != api.ErrRange || len(z) > 0) {
				t.Fatalf("Compose(%v, %v): %v", b, a, e)
			}
		}
	}
	for k, x := range []struct {
		a, b []api.Step
		want api.Errno
	}{{[]api.Step{put("x")}, []api.Step{drop("y")}, api.ErrApart}, {[]api.Step{put("xy")}, []api.Step{drop("xz")}, api.ErrApart}, {[]api.Step{put("x")}, nil, api.ErrRange}, {[]api.Step{{}}, nil, api.ErrArg}, {nil, []api.Step{{}}, api.ErrArg}, {[]api.Step{keep(1)}, []api.Step{keep(2), {}}, api.ErrArg}} {
		if l, e := edit.Compose(x.a, x.b); e != x.want || len(l) > 0 {
			t.Errorf("%d: Compose: %v", k, e)
		}
	}
}

// over is b over a, a being first or not, as the chapter says it.
func over(a, b said, s string, first bool) []api.Step {
	var l []api.Step
	kept := func(n int) {
		if n > 0 {
			l = append(l, keep(n))
		}
	}
	puts := func(p string) {
		if p != "" {
			l = append(l, put(p))
		}
	}
	for p := range len(s) + 1 {
		if first {
			kept(len(a.puts[p]))
			puts(b.puts[p])
		} else {
			puts(b.puts[p])
			kept(len(a.puts[p]))
		}
		if p == len(s) || a.drops[p] {
			continue
		}
		if b.drops[p] {
			l = append(l, drop(s[p:p+1]))
		} else {
			kept(1)
		}
	}
	out, _ := edit.Plain(l)
	return out
}

// P27.4, P27.10
func TestCarry(t *testing.T) {
	c := chance(3)
	for range 20000 {
		s := c.text(6)
		a, b := c.change(s), c.change(s)
		x, y, e := edit.Carry(a, b)
		p, q := say(a, len(s)), say(b, len(s))
		if e != api.OK || !slices.Equal(x, over(q, p, s, false)) || !slices.Equal(y, over(p, q, s, true)) {
			t.Fatalf("Carry(%v, %v): %v, %v, %v, want %v, %v", a, b, x, y, e, over(q, p, s, false), over(p, q, s, true))
		}
		if apply(t, made(s, a), y) != apply(t, made(s, b), x) {
			t.Fatalf("Carry(%v, %v): two texts", a, b)
		}
	}
	half := strings.Repeat("x", api.MaxText/2)
	for k, x := range []struct {
		a, b []api.Step
		want api.Errno
	}{{[]api.Step{drop("a"), keep(2)}, []api.Step{drop("b"), keep(2)}, api.ErrApart}, {[]api.Step{drop("ab")}, []api.Step{keep(1), drop("c")}, api.ErrApart}, {[]api.Step{keep(1)}, []api.Step{keep(2)}, api.ErrRange}, {[]api.Step{{}}, []api.Step{keep(2)}, api.ErrArg}, {[]api.Step{keep(2)}, []api.Step{{Keep: -1}}, api.ErrArg}, {[]api.Step{put(half)}, []api.Step{put(half)}, api.OK}, {[]api.Step{put(half)}, []api.Step{put(half + "x")}, api.ErrLong}, {[]api.Step{put(half + "x"), drop("a")}, []api.Step{put(half), drop("b")}, api.ErrApart}, {[]api.Step{put(half), keep(1)}, []api.Step{put(half), keep(1)}, api.ErrLong}, {[]api.Step{put(half), keep(1)}, []api.Step{put(half), drop("a")}, api.OK}} {
		if a, b, e := edit.Carry(x.a, x.b); e != x.want || e != api.OK && len(a)+len(b) > 0 {
			t.Errorf("%d: Carry: %v, want %v", k, e, x.want)
		}
	}
}

// P27.1, P27.2
func TestMay(t *testing.T) {
	long := strings.Repeat("x", api.MaxText)
	for k, x := range []struct {
		c    []api.Step
		want api.Errno
	}{{nil, api.OK}, {[]api.Step{{}}, api.ErrArg}, {[]api.Step{{Keep: -1}}, api.ErrArg}, {[]api.Step{{Keep: 1, Put: "a"}}, api.ErrArg}, {[]api.Step{{Drop: "b", Put: "a"}}, api.ErrArg}, {[]api.Step{{Keep: 1, Drop: "a"}}, api.ErrArg}, {[]api.Step{{Keep: -1, Drop: "a"}}, api.ErrArg}, {[]api.Step{keep(api.MaxText)}, api.OK}, {[]api.Step{keep(api.MaxText + 1)}, api.ErrArg}, {[]api.Step{keep(1<<63 - 1), keep(1<<63 - 1)}, api.ErrArg}, {[]api.Step{put(long), drop(long)}, api.OK}, {[]api.Step{put(long + "x")}, api.ErrArg}, {[]api.Step{drop(long), drop("x")}, api.ErrArg}, {[]api.Step{keep(api.MaxText), put("x")}, api.ErrArg}, {[]api.Step{keep(1), keep(0)}, api.ErrArg}} {
		a, b, e := edit.Sizes(x.c)
		p, f := edit.Plain(x.c)
		i, g := edit.Invert(x.c)
		m, h := edit.Move(x.c, 0, true)
		s, j := edit.Print(x.c)
		if e != x.want || f != x.want || g != x.want || h != x.want || j != x.want {
			t.Errorf("%d: %v, %v, %v, %v, %v", k, e, f, g, h, j)
		}
		if x.want != api.OK && (a+b+m != 0 || len(p)+len(i) > 0 || s != "") {
			t.Errorf("%d: something is told", k)
		}
		if _, e := edit.Apply("q", x.c); x.want != api.OK && e != api.ErrArg {
			t.Errorf("%d: Apply %v", k, e)
		}
		if _, e := edit.Whole("q", x.c); x.want != api.OK && e != api.ErrArg {
			t.Errorf("%d: Whole %v", k, e)
		}
	}
	for k, x := range []struct {
		c    []api.Step
		want api.Errno
	}{{[]api.Step{keep(1)}, api.ErrRange}, {[]api.Step{drop("b"), keep(2)}, api.ErrApart}, {[]api.Step{drop("b"), keep(3)}, api.ErrRange}, {[]api.Step{keep(2), drop("d")}, api.ErrApart}, {[]api.Step{keep(3), put("\u00e9")}, api.OK}} {
		a, e := edit.Apply("abc", x.c)
		l, f := edit.Whole("abc", x.c)
		if e != x.want || f != x.want || e != api.OK && (a != "" || len(l) > 0) {
			t.Errorf("%d: Apply: %q, %v, %v", k, a, e, f)
		}
	}
}

// P27.6, P27.12
func TestPieces(t *testing.T) {
	c := chance(4)
	for range 20000 {
		s, u := c.text(7), c.text(7)
		if c.less(2) == 0 {
			u = s[:len(s)/2] + u + s[len(s)/2:]
		}
		l, e := edit.Between(s, u)
		p, q := slices.Collect(runes.Pieces(s)), slices.Collect(runes.Pieces(u))
		bytes := func(s string, p api.Piece) string { return s[p.At : p.At+p.Width] }
		i := 0
		for i < min(len(p), len(q)) && bytes(s, p[i]) == bytes(u, q[i]) {
			i++
		}
		j := 0
		for j < min(len(p), len(q))-i && bytes(s, p[len(p)-1-j]) == bytes(u, q[len(q)-1-j]) {
			j++
		}
		size := func(s string, p []api.Piece) int {
			n := 0
			for _, x := range p {
				n += x.Width
			}
			return n
		}
		a, b := size(s, p[:i]), size(s, p[len(p)-j:])
		var want []api.Step
		for _, x := range []api.Step{keep(a), put(u[a : len(u)-b]), drop(s[a : len(s)-b]), keep(b)} {
			if x != (api.Step{}) {
				want = append(want, x)
			}
		}
		want, _ = edit.Plain(want)
		if e != api.OK || !slices.Equal(l, want) || apply(t, s, l) != u {
			t.Fatalf("Between(%q, %q): %v, %v, want %v", s, u, l, e, want)
		}
		whole(t, s, c.change(s))
	}
	long := strings.Repeat("a", api.MaxText)
	if l, e := edit.Between(long, long[1:]+"b"); e != api.OK || len(l) != 3 {
		t.Error("Between at the limit", e)
	}
	for _, x := range [][2]string{{long + "a", ""}, {"", long + "a"}} {
		if l, e := edit.Between(x[0], x[1]); e != api.ErrLong || len(l) > 0 {
			t.Error("Between behind it", e)
		}
	}
	many := slices.Repeat([]api.Step{keep(1), drop("\xa9"), put("\xa9")}, api.MaxText/2)
	if l, e := edit.Whole(strings.Repeat("\u00e9", api.MaxText/2), many); e != api.OK || len(l) != 2 {
		t.Error("Whole at the limit", e)
	}
}

// whole holds Whole against each piece of the text.
func whole(t *testing.T, s string, c []api.Step) {
	t.Helper()
	u := made(s, c)
	l, e := edit.Whole(s, c)
	plain, _ := edit.Plain(l)
	if e != api.OK || !slices.Equal(plain, l) || apply(t, s, l) != u {
		t.Fatalf("Whole(%q, %v): %v, %v", s, c, l, e)
	}
	x, y := say(c, len(s)), say(l, len(s))
	at := 0 // where the byte stands in what the change makes
	place := make([]int, len(s))
	for k := range len(s) {
		at += len(x.puts[k])
		place[k] = at
		if !x.drops[k] {
			at++
		}
	}
	for p := range runes.Pieces(s) {
		kept := true
		for k := p.At; k < p.At+p.Width; k++ {
			kept = kept && !x.drops[k] && (k == p.At || x.puts[k] == "")
		}
		if kept {
			kept = false
			for q := range runes.Pieces(u) {
				kept = kept || q.At == place[p.At] && q.Width == p.Width
			}
		}
		for k := p.At; k < p.At+p.Width; k++ {
			if y.drops[k] == kept {
				t.Fatalf("Whole(%q, %v): %v, the piece at %d", s, c, l, p.At)
			}
		}
	}
}

// The grammar of the chapter, as far as it goes without numbers' and texts' sizes.
var row = regexp.MustCompile(`^((=[1-9][0-9]*|[-+]"([ !#-\[\]-~]|\\["\\]|\\\{[0-9a-f]{1,6}\}|\\x[0-9a-f]{2})*")( (=[1-9][0-9]*|[-+]"([ !#-\[\]-~]|\\["\\]|\\\{[0-9a-f]{1,6}\}|\\x[0-9a-f]{2})*"))*)?$`)

var steps = regexp.MustCompile(`^ ?(?:=([1-9][0-9]*)|([-+])("([^"\\]|\\.)*"))`)

// wrong is the first thing that is wrong with a text.
func wrong(text string) api.Spot {
	end := len(text) + 1
	for n := 1; n <= len(text); n++ {
		goes := false
		for _, more := range []string{"", "1", `"`, `""`, `n"`, `\"`, `}"`, `1}"`, `1"`, `11"`, "=1", `{1}"`} {
			goes = goes || row.MatchString(text[:n]+more)
		}
		if !goes {
			end = n - 1
			break
		}
	}
	if end > len(text) && !row.MatchString(text) {
		end = len(text)
	}
	from, to := 0, 0
	whole := text
	for text = text[:min(end, len(text))]; ; {
		at := len(whole[:min(end, len(whole))]) - len(text)
		x := steps.FindStringSubmatchIndex(text)
		if x == nil {
			break
		}
		if x[2] >= 0 {
			n := api.MaxText + 1
			if x[3]-x[2] < 6 {
				n, _ = strconv.Atoi(text[x[2]:x[3]])
			}
			if from, to = from+n, to+n; from > api.MaxText || to > api.MaxText {
				return api.Spot{Err: api.ErrChange, At: at + x[2]}
			}
			text = text[x[1]:]
			continue
		}
		s := unquote(text[x[6]:x[7]])
		if text[x[4]] == '-' {
			from += len(s)
		} else {
			to += len(s)
		}
		if again, _ := edit.Print([]api.Step{put(s)}); s == "" || again != "+"+text[x[6]:x[7]] || from > api.MaxText || to > api.MaxText {
			return api.Spot{Err: api.ErrChange, At: at + x[6]}
		}
		text = text[x[1]:]
	}
	if end <= len(whole) {
		return api.Spot{Err: api.ErrChange, At: end}
	}
	return api.Spot{}
}

func unquote(s string) string {
	s = s[1 : len(s)-1]
	s = regexp.MustCompile(`\\(["\\])|\\\{([0-9a-f]+)\}|\\x(..)`).ReplaceAllStringFunc(s, func(m string) string {
		switch m[1] {
		case '{':
			n, _ := strconv.ParseInt(m[2:len(m)-1], 16, 64)
			return string(rune(n))
		case 'x':
			n, _ := strconv.ParseInt(m[2:], 16, 64)
			return string([]byte{byte(n)})
		}
		return m[1:]
	})
	return s
}

// P27.7
func TestRead(t *testing.T) {
	c := chance(5)
	good := 0
	for range 30000 {
		text := ""
		for range c.less(6) {
			text += c.of("=1", "=20", "=65536", "=65535", " ", " ", " ", `+"a"`, `-"b"`, `-"`, `+"`, `"`, `\`, `\{e9}`, `\xff`, `\x41`, `\{61}`, `\"`, `\\`, "=", "0", "\u00e9", "a", `\{d800}`, `\xc3`, `\xa9`, `\{`, "}", "x", `+"\{1f600}\xff"`)
		}
		want := wrong(text)
		l, bad := edit.Read(text)
		if bad != want {
			t.Fatalf("Read(%q): %v, want %v", text, bad, want)
		}
		if bad.Err != api.OK {
			if len(l) > 0 {
				t.Fatalf("Read(%q): %v", text, l)
			}
			continue
		}
		good++
		if p, e := edit.Print(l); p != text || e != api.OK {
			t.Fatalf("Print of Read(%q): %q, %v", text, p, e)
		}
	}
	if good < 2000 {
		t.Error("right ones:", good)
	}
	spot := func(e api.Errno, at int) api.Spot { return api.Spot{Err: e, At: at} }
	long := strings.Repeat("a", api.MaxText)
	for text, want := range map[string]api.Spot{
		"=1  =1": spot(271, 3), "+\"\u00e9\"": spot(271, 2), "=0": spot(271, 1), `+"\{61}"`: spot(271, 1), `+""`: spot(271, 1), "=1 =65536": spot(271, 4), "": {}, "=65536": {}, "=65537": spot(271, 1), "=65537x": spot(271, 1), "=99999999999999999999": spot(271, 1), "=1x": spot(271, 2), " ": spot(271, 0), "=1 ": spot(271, 3), "x": spot(271, 0), "+": spot(271, 1), `+"`: spot(271, 2), `+"a`: spot(271, 3), `+"\`: spot(271, 3), `+"\q"`: spot(271, 3), `+"\{}"`: spot(271, 4), `+"\{1234567}"`: spot(271, 10), `+"\{110000}"`: spot(271, 1), `+"\{fffd}"`: {}, `+"\xef\xbf\xbd"`: spot(271, 1), `+"\{0a}"`: spot(271, 1), `+"\{a}"`: {}, `+"\xFF"`: spot(271, 4), `+"\{E9}"`: spot(271, 4), `+"\x7"`: spot(271, 5), "+\"\x00\"": spot(271, 2), "+\"\x7f\"": spot(271, 2), `-"a" -"b" +"c"`: {}, `+"a"x`: spot(271, 4), `+""x`: spot(271, 1),
		`+"` + long + `"`: {}, `+"` + long + `a"`: spot(271, 1), `-"` + long + `" +"` + long + `"`: {}, `-"` + long + `" =1`: spot(271, 4+api.MaxText+1),
		strings.Repeat("x", api.MaxPrint): spot(271, 0), strings.Repeat("x", api.MaxPrint+1): spot(3, api.MaxPrint),
	} {
		if l, bad := edit.Read(text); bad != want || bad.Err != api.OK && len(l) > 0 {
			t.Errorf("Read(%.30q): %v, want %v", text, bad, want)
		}
	}
	if p, _ := edit.Print([]api.Step{keep(1), put("a\u00e9\"\\\xff")}); p != `=1 +"a\{e9}\"\\\xff"` {
		t.Errorf("Print: %q", p)
	}
}
