package scheme_test

import (
	"regexp"
	"slices"
	"strconv"
	"strings"
	"testing"

	"canticle/api"
	"canticle/scheme"
)

type chance uint64

func (c *chance) less(n int) int {
	*c = *c*6364136223846793005 + 1442695040888963407
	return int(uint64(*c)>>33) % n
}

func (c *chance) of(l ...string) string { return l[c.less(len(l))] }

const letters = "abcdefghijklmnopqrstuvwyz"

func read(t *testing.T, text string) api.Scheme {
	t.Helper()
	s, bad := scheme.Read(text)
	if bad != (api.Spot{}) {
		t.Fatalf("Read(%q): %v", text, bad)
	}
	return s
}

func show(t *testing.T, s api.Scheme, e api.Errno) string {
	t.Helper()
	text, f := scheme.Print(s)
	if e != api.OK || f != api.OK {
		t.Fatalf("%v: %v, %v", s, e, f)
	}
	return text
}

func same(a, b api.Scheme) bool {
	return slices.Equal(a.Lines, b.Lines) && slices.Equal(a.Stanzas, b.Stanzas)
}

// P16.1
func TestCheck(t *testing.T) {
	lines := func(n int) []api.Rhyme { return make([]api.Rhyme, n) }
	for k, x := range []struct {
		s    api.Scheme
		want api.Errno
	}{
		{api.Scheme{}, api.OK}, {api.Scheme{Lines: lines(3), Stanzas: []int{1, 2}}, api.OK}, {api.Scheme{Lines: lines(512), Stanzas: []int{512}}, api.OK}, {api.Scheme{Lines: lines(513), Stanzas: []int{513}}, api.ErrArg},
		{api.Scheme{Lines: lines(3), Stanzas: []int{1}}, api.ErrArg}, {api.Scheme{Lines: lines(3), Stanzas: []int{1, 3}}, api.ErrArg}, {api.Scheme{Lines: lines(3), Stanzas: []int{3, 0}}, api.ErrArg}, {api.Scheme{Lines: lines(3), Stanzas: []int{4, -1}}, api.ErrArg}, {api.Scheme{Lines: lines(3)}, api.ErrArg}, {api.Scheme{Stanzas: []int{0}}, api.ErrArg}, {api.Scheme{Lines: lines(2), Stanzas: []int{1<<63 - 1, 1<<63 - 1, 4}}, api.ErrArg},
		{api.Scheme{Lines: []api.Rhyme{{Class: 24, Refrain: 9}, {Class: -1}}, Stanzas: []int{2}}, api.OK}, {api.Scheme{Lines: []api.Rhyme{{Class: 25}}, Stanzas: []int{1}}, api.ErrArg}, {api.Scheme{Lines: []api.Rhyme{{Class: -2}}, Stanzas: []int{1}}, api.ErrArg}, {api.Scheme{Lines: []api.Rhyme{{Class: 0, Refrain: 10}}, Stanzas: []int{1}}, api.ErrArg}, {api.Scheme{Lines: []api.Rhyme{{Class: 0, Refrain: -1}}, Stanzas: []int{1}}, api.ErrArg}, {api.Scheme{Lines: []api.Rhyme{{Class: -1, Refrain: 1}}, Stanzas: []int{1}}, api.ErrArg},
	} {
		if e := scheme.Check(x.s); e != x.want {
			t.Errorf("%d: %v", k, e)
		}
		if x.want == api.OK {
			continue
		}
		good := read(t, "a b c")
		_, a := scheme.Print(x.s)
		_, b := scheme.Canon(x.s)
		_, c := scheme.Turn(x.s)
		_, d := scheme.Classes(x.s)
		_, e := scheme.Faults(x.s, make([]string, len(x.s.Lines))...)
		_, f := scheme.Within(x.s, good)
		_, g := scheme.Within(good, x.s)
		_, h := scheme.Meet(x.s, good)
		_, i := scheme.Meet(good, x.s)
		_, j := scheme.Join(x.s, good)
		_, l := scheme.Join(good, x.s)
		_, m := scheme.Rank(x.s)
		for n, e := range []api.Errno{a, b, c, d, e, f, g, h, i, j, l, m} {
			if e != api.ErrArg {
				t.Errorf("%d: the call %d: %v", k, n, e)
			}
		}
		if scheme.Same(x.s, x.s) {
			t.Errorf("%d: Same", k)
		}
	}
}

var whole = regexp.MustCompile(`^(([a-z]|[A-WYZ][1-9])+( ([a-z]|[A-WYZ][1-9])+)*)?$`)

// wrong finds the first byte with which no scheme's text goes on.
func wrong(text string) api.Spot {
	for n := 1; n <= len(text); n++ {
		if !whole.MatchString(text[:n]) && !whole.MatchString(text[:n]+"1") && !whole.MatchString(text[:n]+"a") {
			return api.Spot{Err: api.ErrScheme, At: n - 1}
		}
	}
	if !whole.MatchString(text) {
		return api.Spot{Err: api.ErrScheme, At: len(text)}
	}
	return api.Spot{}
}

// P16.2, P16.8
func TestRead(t *testing.T) {
	c := chance(1)
	for range 20000 {
		text := ""
		for range c.less(8) {
			text += c.of("a", "b", "z", "x", "A", "Z1", "B2", "X", "1", "0", "9", " ", " ", "\u00e9", "y", "-")
		}
		s, bad := scheme.Read(text)
		if want := wrong(text); bad != want {
			t.Fatalf("Read(%q): %v, want %v", text, bad, want)
		}
		if bad.Err != api.OK {
			if len(s.Lines)+len(s.Stanzas) > 0 {
				t.Fatalf("Read(%q): %v", text, s)
			}
			continue
		}
		if got := show(t, s, scheme.Check(s)); got != text {
			t.Fatalf("Print of Read(%q): %q", text, got)
		}
		var want api.Scheme
		for _, part := range strings.Fields(text) {
			n := 0
			for _, r := range part {
				if r >= '1' && r <= '9' {
					want.Lines[len(want.Lines)-1].Refrain = int(r - '0')
					continue
				}
				n++
				want.Lines = append(want.Lines, api.Rhyme{Class: strings.Index(letters, strings.ToLower(string(r)))})
			}
			want.Stanzas = append(want.Stanzas, n)
		}
		if !same(s, want) {
			t.Fatalf("Read(%q): %v", text, s)
		}
	}
	if got := show(t, read(t, letters), api.OK); got != letters || read(t, letters).Lines[24].Class != 24 {
		t.Errorf("all letters: %q", got)
	}
	many := strings.Repeat("a", api.MaxLines)
	for text, want := range map[string]api.Spot{many: {}, many + "a": {Err: api.ErrLong, At: 512}, many + "A1": {Err: api.ErrLong, At: 512}, many + "X": {Err: api.ErrScheme, At: 512}, many + " x": {Err: api.ErrLong, At: 513}, many + "  ": {Err: api.ErrScheme, At: 513}, strings.Repeat("a", api.MaxText): {Err: api.ErrLong, At: 512}, strings.Repeat("a", api.MaxText+1): {Err: api.ErrLong, At: api.MaxText}, " " + many + many + strings.Repeat("!", api.MaxText): {Err: api.ErrLong, At: api.MaxText}} {
		if _, bad := scheme.Read(text); bad != want {
			t.Errorf("Read of %d: %v, want %v", len(text), bad, want)
		}
	}
}

// made is a scheme by chance.
func (c *chance) made(n int) api.Scheme {
	var s api.Scheme
	for range n {
		l := api.Rhyme{Class: c.less(4) - 1}
		if l.Class >= 0 && c.less(4) == 0 {
			l.Refrain = c.less(3)
		}
		if len(s.Lines) == 0 || c.less(3) == 0 {
			s.Stanzas = append(s.Stanzas, 0)
		}
		s.Stanzas[len(s.Stanzas)-1]++
		s.Lines = append(s.Lines, l)
	}
	return s
}

func alike(s api.Scheme, i, j int) bool {
	return i == j || s.Lines[i].Class >= 0 && s.Lines[i].Class == s.Lines[j].Class
}

// P16.3, P16.4, P16.8
func TestOne(t *testing.T) {
	c := chance(2)
	for range 5000 {
		s := c.made(c.less(9))
		before := show(t, s, api.OK)
		canon, e := scheme.Canon(s)
		again, _ := scheme.Canon(canon)
		if e != api.OK || !scheme.Same(canon, again) || !slices.Equal(canon.Stanzas, s.Stanzas) {
			t.Fatalf("Canon(%v): %v", s, canon)
		}
		next := 0
		for k, l := range canon.Lines {
			if l.Refrain != s.Lines[k].Refrain || (l.Class < 0) != (s.Lines[k].Class < 0) || l.Class > next {
				t.Fatalf("Canon(%v): %v", s, canon)
			}
			next = max(next, l.Class+1)
			for j := range k {
				if alike(s, j, k) != alike(canon, j, k) {
					t.Fatalf("Canon(%v): %v", s, canon)
				}
			}
		}
		turned, e := scheme.Turn(s)
		back, _ := scheme.Turn(turned)
		if e != api.OK || !scheme.Same(back, s) {
			t.Fatalf("Turn(%v): %v", s, turned)
		}
		for k, l := range s.Lines {
			if turned.Lines[len(s.Lines)-1-k] != l {
				t.Fatalf("Turn(%v): %v", s, turned)
			}
		}
		classes, e := scheme.Classes(s)
		var want [][]int
		for k, l := range s.Lines {
			n := slices.IndexFunc(want, func(x []int) bool { return alike(s, x[0], k) })
			switch {
			case l.Class < 0:
			case n < 0:
				want = append(want, []int{k})
			default:
				want[n] = append(want[n], k)
			}
		}
		if e != api.OK || !slices.EqualFunc(classes, want, slices.Equal[[]int]) {
			t.Fatalf("Classes(%v): %v", s, classes)
		}
		for k := range canon.Lines {
			canon.Lines[k].Class, turned.Lines[k].Class = -1, -1
		}
		for k := range canon.Stanzas {
			canon.Stanzas[k], turned.Stanzas[k] = 7, 7
		}
		if show(t, s, api.OK) != before {
			t.Fatal("lists are shared")
		}
		other := c.made(len(s.Lines))
		if scheme.Same(s, other) != same(s, other) {
			t.Fatalf("Same(%v, %v)", s, other)
		}
	}
}

// P16.4, P16.5, P16.8
func TestKeys(t *testing.T) {
	c := chance(3)
	for range 5000 {
		n := c.less(8)
		var keys []string
		for range n {
			keys = append(keys, c.of("ow", "ay", "", "\xff", "e"))
		}
		found, e := scheme.Found(keys...)
		if e != api.OK || len(found.Lines) != n || n > 0 && !slices.Equal(found.Stanzas, []int{n}) || n == 0 && len(found.Stanzas) > 0 {
			t.Fatalf("Found(%q): %v, %v", keys, found, e)
		}
		next := 0
		for k, l := range found.Lines {
			if l.Class < 0 || l.Class > next || l.Refrain != 0 {
				t.Fatalf("Found(%q): %v", keys, found)
			}
			next = max(next, l.Class+1)
			for j := range k {
				if alike(found, j, k) != (keys[j] == keys[k]) {
					t.Fatalf("Found(%q): %v", keys, found)
				}
			}
		}
		if l, e := scheme.Faults(found, keys...); e != api.OK || len(l) > 0 {
			t.Fatalf("Faults of Found(%q): %v, %v", keys, l, e)
		}
		s := c.made(n)
		var want []api.Clash
		for i := range keys {
			first, sameKey := -1, -1
			for j := i - 1; j >= 0; j-- {
				if alike(s, i, j) {
					first = j
				}
				if keys[i] == keys[j] {
					sameKey = j
				}
			}
			switch {
			case first >= 0 && keys[first] != keys[i]:
				want = append(want, api.Clash{Line: i, With: first, Err: api.ErrUnlike})
			case first < 0 && sameKey >= 0:
				want = append(want, api.Clash{Line: i, With: sameKey, Err: api.ErrAlike})
			}
		}
		if l, e := scheme.Faults(s, keys...); e != api.OK || !slices.Equal(l, want) {
			t.Fatalf("Faults(%v, %q): %v, %v, want %v", s, keys, l, e, want)
		}
		if l, e := scheme.Faults(s, append(keys, "")...); e != api.ErrArg || len(l) > 0 {
			t.Fatal("a key more", l, e)
		}
	}
	var keys []string
	for k := range 26 {
		keys = append(keys, strconv.Itoa(k))
	}
	if _, e := scheme.Found(keys[:25]...); e != api.OK {
		t.Error("25 keys", e)
	}
	if s, e := scheme.Found(keys...); e != api.ErrRange || len(s.Lines) > 0 {
		t.Error("26 keys", e)
	}
	if _, e := scheme.Found(make([]string, 512)...); e != api.OK {
		t.Error("512 keys", e)
	}
	if s, e := scheme.Found(append(make([]string, 500), keys...)...); e != api.ErrLong || len(s.Lines) > 0 {
		t.Error("526 keys", e)
	}
}

// P16.6, P16.8
func TestTwo(t *testing.T) {
	c := chance(4)
	for range 5000 {
		n := c.less(8)
		a, b := c.made(n), c.made(n)
		within := true
		joined := make([][]bool, n)
		for i := range n {
			joined[i] = make([]bool, n)
			for j := range n {
				within = within && (!alike(a, i, j) || alike(b, i, j))
				joined[i][j] = alike(a, i, j) || alike(b, i, j)
			}
		}
		for m := range n {
			for i := range n {
				for j := range n {
					joined[i][j] = joined[i][j] || joined[i][m] && joined[m][j]
				}
			}
		}
		if got, e := scheme.Within(a, b); got != within || e != api.OK {
			t.Fatalf("Within(%v, %v): %v, %v", a, b, got, e)
		}
		meet, e := scheme.Meet(a, b)
		join, f := scheme.Join(a, b)
		if e != api.OK || f != api.OK {
			t.Fatalf("Meet, Join(%v, %v): %v, %v", a, b, e, f)
		}
		for _, x := range []struct {
			s     api.Scheme
			alike func(i, j int) bool
		}{{meet, func(i, j int) bool { return alike(a, i, j) && alike(b, i, j) }}, {join, func(i, j int) bool { return joined[i][j] }}} {
			canon, e := scheme.Canon(x.s)
			if e != api.OK || !same(canon, x.s) || !slices.Equal(x.s.Stanzas, a.Stanzas) {
				t.Fatalf("Meet or Join(%v, %v): %v", a, b, x.s)
			}
			for i, l := range x.s.Lines {
				alone := true
				for j := range n {
					if alike(x.s, i, j) != x.alike(i, j) {
						t.Fatalf("Meet or Join(%v, %v): %v", a, b, x.s)
					}
					alone = alone && (i == j || !x.alike(i, j))
				}
				if none := a.Lines[i].Class < 0 && b.Lines[i].Class < 0; l.Refrain != 0 || alone && (l.Class < 0) != none {
					t.Fatalf("Meet or Join(%v, %v): %v", a, b, x.s)
				}
			}
		}
		more := c.made(n + 1)
		if ok, e := scheme.Within(a, more); ok || e != api.ErrArg {
			t.Fatal("unlike many", e)
		}
		if s, e := scheme.Meet(more, a); len(s.Lines) > 0 || e != api.ErrArg {
			t.Fatal("unlike many", e)
		}
		if s, e := scheme.Join(a, more); len(s.Lines) > 0 || e != api.ErrArg {
			t.Fatal("unlike many", e)
		}
	}
	x := read(t, strings.Repeat("x", 20)+letters[:6])
	y := read(t, letters[:20]+strings.Repeat("x", 6))
	if s, e := scheme.Join(x, y); e != api.ErrRange || len(s.Lines) > 0 {
		t.Error("26 classes joined", e)
	}
	if s, e := scheme.Meet(x, y); e != api.ErrRange || len(s.Lines) > 0 {
		t.Error("26 classes met", e)
	}
	z := read(t, letters[:19]+strings.Repeat("x", 7))
	if s, e := scheme.Meet(x, z); e != api.OK || s.Lines[19].Class != -1 {
		t.Error("25 classes", e)
	}
}

// P16.7, P16.8
func TestAll(t *testing.T) {
	for n := range 8 {
		count, e := scheme.Count(n)
		if e != api.OK {
			t.Fatal(n, e)
		}
		k := 0
		last := ""
		for s := range scheme.All(n) {
			text := show(t, s, api.OK)
			if len(text) != n || k > 0 && text <= last {
				t.Fatalf("All(%d): %q behind %q", n, text, last)
			}
			c, _ := scheme.Canon(s)
			if !same(c, s) || strings.Contains(text, "x") {
				t.Fatalf("All(%d): %q", n, text)
			}
			if r, e := scheme.Rank(s); r != k || e != api.OK {
				t.Fatalf("Rank(%q): %d, %v, want %d", text, r, e, k)
			}
			if u, e := scheme.Unrank(n, k); !same(u, s) || e != api.OK {
				t.Fatalf("Unrank(%d, %d): %v, %v", n, k, u, e)
			}
			last, k = text, k+1
		}
		if k != count {
			t.Fatalf("Count(%d): %d, told %d", n, count, k)
		}
	}
	binomial := []int{1}
	for n := range 25 {
		sum := 0
		for k, b := range binomial {
			c, _ := scheme.Count(k)
			sum += b * c
		}
		if c, e := scheme.Count(n + 1); c != sum || e != api.OK {
			t.Errorf("Count(%d): %d, want %d", n+1, c, sum)
		}
		next := []int{1}
		for k := range n {
			next = append(next, binomial[k]+binomial[k+1])
		}
		binomial = append(next, 1)
	}
	all, _ := scheme.Count(25)
	if all != 4638590332229999353 {
		t.Error("Count(25)", all)
	}
	for _, k := range []int{0, 1, 12345678901234567, all / 2, all - 1} {
		s, e := scheme.Unrank(25, k)
		if r, f := scheme.Rank(s); r != k || e != api.OK || f != api.OK {
			t.Errorf("Rank of Unrank(25, %d): %d, %v, %v", k, r, e, f)
		}
	}
	if s, _ := scheme.Unrank(25, all-1); show(t, s, api.OK) != letters {
		t.Error("the last one")
	}
	for _, n := range []int{-1, 26, -1 << 63, 1<<63 - 1} {
		c, e := scheme.Count(n)
		s, f := scheme.Unrank(n, 0)
		if c != 0 || e != api.ErrArg || f != api.ErrArg || len(s.Lines) > 0 {
			t.Error(n, c, e, f)
		}
		for range scheme.All(n) {
			t.Fatal("All", n)
		}
	}
	for _, x := range [][2]int{{3, 5}, {3, -1}, {0, 1}, {25, all}, {25, -1 << 63}} {
		if s, e := scheme.Unrank(x[0], x[1]); e != api.ErrArg || len(s.Lines) > 0 {
			t.Error("Unrank", x, e)
		}
	}
	for _, text := range []string{"ba", "a b", "x", "A1", "aab c", "ac", strings.Repeat("a", 26)} {
		if n, e := scheme.Rank(read(t, text)); n != 0 || e != api.ErrArg {
			t.Errorf("Rank(%q): %d, %v", text, n, e)
		}
	}
	for range scheme.All(25) {
		break
	}
}

// The examples of the chapter.
func TestExamples(t *testing.T) {
	s := read(t, "A1bA2 abA1")
	if !same(s, api.Scheme{Lines: []api.Rhyme{{Class: 0, Refrain: 1}, {Class: 1}, {Class: 0, Refrain: 2}, {Class: 0}, {Class: 1}, {Class: 0, Refrain: 1}}, Stanzas: []int{3, 3}}) {
		t.Error(s)
	}
	c, e := scheme.Canon(read(t, "cbc"))
	if got := show(t, c, e); got != "aba" {
		t.Error("Canon", got)
	}
	c, e = scheme.Turn(read(t, "aab c"))
	if got := show(t, c, e); got != "c baa" {
		t.Error("Turn", got)
	}
	if l, _ := scheme.Classes(read(t, "xaba")); !slices.EqualFunc(l, [][]int{{1, 3}, {2}}, slices.Equal[[]int]) {
		t.Error("Classes", l)
	}
	for _, x := range []struct{ a, b, meet, join string }{{"aabb", "abab", "abcd", "aaaa"}, {"aabb", "abbc", "abcd", "aaaa"}, {"xxa", "xxa", "xxa", "xxa"}, {"aa", "ab", "ab", "aa"}} {
		m, e := scheme.Meet(read(t, x.a), read(t, x.b))
		j, f := scheme.Join(read(t, x.a), read(t, x.b))
		if show(t, m, e) != x.meet || show(t, j, f) != x.join {
			t.Errorf("%v: %v, %v", x, m, j)
		}
	}
	if n, _ := scheme.Rank(read(t, "abca")); n != 11 {
		t.Error("Rank", n)
	}
}
