package draft_test

import (
	"maps"
	"slices"
	"strconv"
	"strings"
	"testing"
	"time"

	"canticle/api"
	"canticle/draft"
	"canticle/edit"
	"canticle/word"
)

type chance uint64

func (c *chance) less(n int) int {
	*c = *c*6364136223846793005 + 1442695040888963407
	return int(uint64(*c)>>33) % n
}

func (c *chance) of(l ...string) string { return l[c.less(len(l))] }

func (c *chance) text(n int) string {
	s := ""
	for range c.less(n) {
		s += c.of("a", "b", " ", ",", "c", "\xff", " ", "\u00e9", "!")
	}
	return s
}

func tokens(s string) []string {
	var l []string
	for t := range word.Scan(s) {
		l = append(l, s[t.Span.From:t.Span.To])
	}
	return l
}

// rows are all rows of pairs; the best one, the first of such, is told.
func best(a, b []string, i, j int) [][2]int {
	var top [][2]int
	for x := i; x < len(a); x++ {
		for y := j; y < len(b); y++ {
			if a[x] == b[y] {
				if l := append([][2]int{{x, y}}, best(a, b, x+1, y+1)...); len(l) > len(top) {
					top = l
				}
			}
		}
	}
	return top
}

func match(a, b []string) [][2]int {
	var l [][2]int
	h := 0
	for h < min(len(a), len(b)) && a[h] == b[h] {
		l = append(l, [2]int{h, h})
		h++
	}
	t := 0
	for t < min(len(a), len(b))-h && a[len(a)-1-t] == b[len(b)-1-t] {
		t++
	}
	for _, p := range best(a[h:len(a)-t], b[h:len(b)-t], 0, 0) {
		l = append(l, [2]int{p[0] + h, p[1] + h})
	}
	for k := range t {
		l = append(l, [2]int{len(a) - t + k, len(b) - t + k})
	}
	return l
}

// P28.1, P28.11
func TestMatch(t *testing.T) {
	c := chance(1)
	for range 3000 {
		a, b := c.text(10), c.text(10)
		if c.less(2) == 0 {
			b = a[:len(a)/2] + b + a[len(a)/2:]
		}
		x, y := tokens(a), tokens(b)
		if len(x) > 9 || len(y) > 12 {
			continue
		}
		want := match(x, y)
		got, e := draft.Match(a, b)
		if e != api.OK || !slices.Equal(got, want) {
			t.Fatalf("Match(%q, %q): %v, %v, want %v", a, b, got, e, want)
		}
		ch, e := draft.Change(a, b)
		plain, _ := edit.Plain(ch)
		made, f := edit.Apply(a, ch)
		if e != api.OK || f != api.OK || made != b || !slices.Equal(plain, ch) {
			t.Fatalf("Change(%q, %q): %v, %v", a, b, ch, e)
		}
		kept, matched := 0, 0
		for _, s := range ch {
			kept += s.Keep
		}
		var l []api.Step
		i, j := 0, 0
		for _, p := range append(want, [2]int{len(x), len(y)}) {
			for ; i < p[0]; i++ {
				l = append(l, api.Step{Drop: x[i]})
			}
			for ; j < p[1]; j++ {
				l = append(l, api.Step{Put: y[j]})
			}
			if i < len(x) && j < len(y) {
				l = append(l, api.Step{Keep: len(x[i])})
				matched += len(x[i])
			}
			i, j = i+1, j+1
		}
		if l, _ = edit.Plain(l); kept != matched || !slices.Equal(ch, l) {
			t.Fatalf("Change(%q, %q): %v, want %v", a, b, ch, l)
		}
	}
	long := strings.Repeat("a", api.MaxText)
	for _, x := range [][2]string{{long + "a", ""}, {"", long + "a"}} {
		l, e := draft.Match(x[0], x[1])
		m, f := draft.Change(x[0], x[1])
		if e != api.ErrLong || f != api.ErrLong || len(l)+len(m) > 0 {
			t.Error(e, f)
		}
	}
	// 1024 tokens are matched, 1025 are not.
	for n, want := range map[int]int{512: 1023, 513: 0} {
		l, e := draft.Match(strings.Repeat("a,", n), strings.Repeat(",a", n))
		if e != api.OK || len(l) != want {
			t.Errorf("%d tokens: %d", 2*n, len(l))
		}
	}
	if l, _ := draft.Match(strings.Repeat("a,", 512)+"!", strings.Repeat(",a", 512)+"?"); len(l) != 0 {
		t.Errorf("1025 tokens: %d", len(l))
	}
}

// P28.2, P28.11
func TestWeave(t *testing.T) {
	c := chance(2)
	for range 6000 {
		base := c.text(8)
		change := func() string {
			s := ""
			for _, x := range tokens(base) {
				s += c.of(x, x, x, x, "", "q", x+"r", "s"+x)
			}
			return s
		}
		into, from := change(), change()
		got, conflicts, e := draft.Weave(base, into, from)
		text, want := weave(base, into, from)
		if e != api.OK || got != text || !slices.Equal(conflicts, want) {
			t.Fatalf("Weave(%q, %q, %q): %q, %v, %v, want %q, %v", base, into, from, got, conflicts, e, text, want)
		}
		back, others, _ := draft.Weave(base, from, into)
		if len(others) != len(conflicts) || len(others) == 0 && back != got {
			t.Fatalf("Weave(%q, %q, %q) the other way: %q, %v", base, into, from, back, others)
		}
		for k, x := range others {
			if y := conflicts[k]; x.Into != y.From || x.From != y.Into || x.Base != y.Base || got[y.Span.From:y.Span.To] != y.Into {
				t.Fatalf("conflicts of %q, %q, %q: %v, %v", base, into, from, x, y)
			}
		}
		for _, x := range [][3]string{{base, base, into}, {base, into, base}, {base, into, into}, {base, base, base}} {
			s, l, _ := draft.Weave(x[0], x[1], x[2])
			want := x[1]
			if x[1] == base {
				want = x[2]
			}
			if s != want || len(l) > 0 {
				t.Fatalf("Weave(%q): %q, %v", x, s, l)
			}
		}
	}
	long := strings.Repeat("a", api.MaxText)
	for k, x := range []struct {
		a, b, c string
		want    api.Errno
	}{{long + "a", "", "", api.ErrLong}, {"", long + "a", "", api.ErrLong}, {"", "", long + "a", api.ErrLong}, {long, long, long, api.OK}, {",", long[:40000] + ",", "," + long[:40000], api.ErrLong}, {",", long[:40000] + ",", "," + long[:25535], api.OK}} {
		if s, l, e := draft.Weave(x.a, x.b, x.c); e != x.want || e != api.OK && s != "" || len(l) > 0 {
			t.Errorf("%d: Weave: %v", k, e)
		}
	}
}

// weave goes by the chapter: firm tokens, and the three sides between them.
func weave(base, into, from string) (string, []api.Conflict) {
	x, y, z := tokens(base), tokens(into), tokens(from)
	with := func(l [][2]int, n int) int {
		for _, p := range l {
			if p[0] == n {
				return p[1]
			}
		}
		return -1
	}
	a, b := match(x, y), match(x, z)
	firm := [][3]int{{-1, -1, -1}}
	for n := range x {
		if i, j := with(a, n), with(b, n); i >= 0 && j >= 0 {
			firm = append(firm, [3]int{n, i, j})
		}
	}
	firm = append(firm, [3]int{len(x), len(y), len(z)})
	out := ""
	var l []api.Conflict
	for k := 1; k < len(firm); k++ {
		p, q := firm[k-1], firm[k]
		o := strings.Join(x[p[0]+1:q[0]], "")
		m := strings.Join(y[p[1]+1:q[1]], "")
		f := strings.Join(z[p[2]+1:q[2]], "")
		switch {
		case f == o:
			out += m
		case m == o:
			out += f
		default:
			if m != f {
				l = append(l, api.Conflict{Span: api.Span{From: len(out), To: len(out) + len(m)}, Base: o, Into: m, From: f})
			}
			out += m
		}
		if k+1 < len(firm) {
			out += x[q[0]]
		}
	}
	return out, l
}

// model is a history as the chapter says it.
type model struct {
	texts    []string
	hands    []int
	parents  [][]int
	branches map[string]int
}

func (m *model) line(k int) map[int]bool {
	l := map[int]bool{k: true}
	for _, p := range m.parents[k] {
		maps.Copy(l, m.line(p))
	}
	return l
}

func (m *model) log(k int) []int {
	l := slices.Sorted(maps.Keys(m.line(k)))
	slices.Reverse(l)
	return l
}

func (m *model) base(a, b int) int {
	for _, n := range m.log(a) {
		if m.line(b)[n] {
			return n
		}
	}
	return -1
}

func (m *model) origin(k, token int) int {
	for _, p := range m.parents[k] {
		l, _ := draft.Match(m.texts[p], m.texts[k])
		for _, x := range l {
			if x[1] == token {
				return m.origin(p, x[0])
			}
		}
	}
	return k
}

func (m *model) add(branch, text string, hand int, parents ...int) {
	m.branches[branch] = len(m.texts)
	m.texts, m.hands, m.parents = append(m.texts, text), append(m.hands, hand), append(m.parents, parents)
}

func (m *model) print() string {
	s := ""
	for k, text := range m.texts {
		s += "draft " + strconv.Itoa(m.hands[k])
		base := ""
		for n, p := range m.parents[k] {
			s += " " + strconv.Itoa(p)
			if n == 0 {
				base = m.texts[p]
			}
		}
		l, _ := draft.Change(base, text)
		p, _ := edit.Print(l)
		s += strings.TrimSuffix(": "+p, " ") + "\n"
	}
	for _, b := range slices.Sorted(maps.Keys(m.branches)) {
		s += "branch " + b + " " + strconv.Itoa(m.branches[b]) + "\n"
	}
	return s
}

// P28.3 to P28.11
func TestHistory(t *testing.T) {
	c := chance(3)
	for range 400 {
		text := c.text(6)
		h, e := draft.New(text)
		if e != api.OK {
			t.Fatal(e)
		}
		m := &model{[]string{text}, []int{0}, [][]int{nil}, map[string]int{"main": 0}}
		for range c.less(12) {
			a, b := c.of("main", "two", "x-1", "Two", "", "-a", "a b"), c.of("main", "two", "x-1")
			head, is := m.branches[a]
			from, was := m.branches[b]
			hand := c.less(3)
			switch c.less(5) {
			case 0:
				at := c.less(len(m.texts)+2) - 1
				want := api.OK
				switch {
				case is || !slices.Contains([]string{"main", "two", "x-1"}, a):
					want = api.ErrBranch
				case at < 0 || at >= len(m.texts):
					want = api.ErrRange
				default:
					m.branches[a] = at
				}
				if e := h.Branch(a, at); e != want {
					t.Fatalf("Branch(%q, %d): %v, want %v", a, at, e, want)
				}
			case 1:
				if c.less(3) > 0 {
					continue
				}
				if e := h.Drop(a); is != (e == api.OK) || !is && e != api.ErrNone {
					t.Fatalf("Drop(%q): %v", a, e)
				}
				delete(m.branches, a)
			case 2, 3:
				text := c.text(8)
				if is && c.less(2) == 0 {
					text = m.texts[head] + text
				}
				n, e := h.Commit(a, hand, text)
				if !is {
					if n != 0 || e != api.ErrNone {
						t.Fatalf("Commit(%q): %v", a, e)
					}
					continue
				}
				m.add(a, text, hand, head)
				if n != len(m.texts)-1 || e != api.OK {
					t.Fatalf("Commit(%q): %d, %v", a, n, e)
				}
			default:
				n, l, e := h.Merge(a, b, hand)
				if !is || !was {
					if n != 0 || len(l) > 0 || e != api.ErrNone {
						t.Fatalf("Merge(%q, %q): %v", a, b, e)
					}
					continue
				}
				text, want := weave(m.texts[m.base(head, from)], m.texts[head], m.texts[from])
				m.add(a, text, hand, head, from)
				if n != len(m.texts)-1 || e != api.OK || !slices.Equal(l, want) {
					t.Fatalf("Merge(%q, %q): %d, %v, %v", a, b, n, l, e)
				}
			}
		}
		holds(t, h, m)
		again, bad := draft.Read(m.print())
		if bad.Err != api.OK {
			t.Fatalf("%q: %v", m.print(), bad)
		}
		holds(t, again, m)
		for range h.Log(len(m.texts) - 1) {
			break
		}
		for range h.Branches() {
			h.Branch("late", 0)
		}
	}
}

func holds(t *testing.T, h *draft.History, m *model) {
	t.Helper()
	n := len(m.texts)
	if h.Len() != n || h.Print() != m.print() {
		t.Fatalf("%d, %q, want %q", h.Len(), h.Print(), m.print())
	}
	got := map[string]int{}
	last := ""
	for name, head := range h.Branches() {
		own, e := h.Head(name)
		if name <= last || own != head || e != api.OK {
			t.Fatal("Branches", name, head)
		}
		got[name], last = head, name
	}
	if !maps.Equal(got, m.branches) {
		t.Fatal("Branches", got)
	}
	for k := -1; k <= n; k++ {
		d, e := h.Draft(k)
		s, f := h.Text(k)
		o, g := h.Origins(k)
		log := slices.Collect(h.Log(k))
		if k < 0 || k == n {
			if e != api.ErrRange || f != api.ErrRange || g != api.ErrRange || d.Hand != 0 || s != "" || len(d.Parents)+len(o)+len(log) > 0 {
				t.Fatal("the draft", k, e, f, g)
			}
			continue
		}
		if e != api.OK || f != api.OK || g != api.OK || d.Hand != m.hands[k] || !slices.Equal(d.Parents, m.parents[k]) || s != m.texts[k] || !slices.Equal(log, m.log(k)) {
			t.Fatal("the draft", k, d, s, log)
		}
		if len(d.Parents) > 0 {
			d.Parents[0] = 99
		}
		var want []api.Origin
		token := 0
		for x := range word.Scan(s) {
			from := m.origin(k, token)
			if i := len(want) - 1; i >= 0 && want[i].Draft == from {
				want[i].Span.To = x.Span.To
			} else {
				want = append(want, api.Origin{Span: x.Span, Draft: from})
			}
			token++
		}
		if !slices.Equal(o, want) {
			t.Fatalf("Origins(%d): %v, want %v", k, o, want)
		}
		for j := -1; j <= n; j++ {
			b, e := h.Base(k, j)
			x, f := h.Base(j, k)
			if j < 0 || j == n {
				if b+x != 0 || e != api.ErrRange || f != api.ErrRange {
					t.Fatalf("Base(%d, %d): %v", k, j, e)
				}
			} else if b != m.base(k, j) || x != b || e != api.OK || f != api.OK {
				t.Fatalf("Base(%d, %d): %d, %d", k, j, b, x)
			}
		}
	}
}

// P28.3 to P28.6: what is refused, and limits.
func TestRefused(t *testing.T) {
	long := strings.Repeat("a", api.MaxText)
	if h, e := draft.New(long + "a"); h != nil || e != api.ErrLong {
		t.Error("New", e)
	}
	h, _ := draft.New("")
	const most = 999999999999999999
	for k, x := range []struct {
		branch string
		hand   int
		text   string
		want   api.Errno
	}{{"no", -1, long + "a", api.ErrNone}, {"main", -1, long + "a", api.ErrArg}, {"main", most + 1, "", api.ErrArg}, {"main", 0, long + "a", api.ErrLong}, {"main", most, long, api.OK}} {
		n, e := h.Commit(x.branch, x.hand, x.text)
		if e != x.want || e != api.OK && n != 0 {
			t.Errorf("%d: Commit: %v", k, e)
		}
	}
	for k, x := range []struct {
		name string
		at   int
		want api.Errno
	}{{"main", 99, api.ErrBranch}, {"", 0, api.ErrBranch}, {"1a", 0, api.ErrBranch}, {"aB", 0, api.ErrBranch}, {"a_", 0, api.ErrBranch}, {"\u00e9", 0, api.ErrBranch}, {strings.Repeat("a", 33), 0, api.ErrBranch}, {strings.Repeat("a", 32), 2, api.ErrRange}, {strings.Repeat("a", 32), -1, api.ErrRange}, {strings.Repeat("a", 32), 1, api.OK}, {"a-0", 0, api.OK}} {
		if e := h.Branch(x.name, x.at); e != x.want {
			t.Errorf("%d: Branch: %v", k, e)
		}
	}
	for k := range api.MaxBranches - 3 {
		if e := h.Branch("b"+strconv.Itoa(k), 0); e != api.OK {
			t.Fatal(e)
		}
	}
	if h.Branch("more", 0) != api.ErrLong || h.Branch("more", 9) != api.ErrRange || h.Branch("More", 9) != api.ErrBranch {
		t.Error("a branch more")
	}
	h.Drop("b0")
	if h.Branch("more", 0) != api.OK || h.Drop("b0") != api.ErrNone {
		t.Error("behind Drop")
	}
	if _, _, e := h.Merge("no", "main", -1); e != api.ErrNone {
		t.Error("Merge", e)
	}
	if _, _, e := h.Merge("main", "no", -1); e != api.ErrNone {
		t.Error("Merge", e)
	}
	if _, _, e := h.Merge("main", "main", -1); e != api.ErrArg {
		t.Error("Merge", e)
	}
	if _, _, e := h.Merge("main", "main", most+1); e != api.ErrArg {
		t.Error("Merge", e)
	}
	if n, l, e := h.Merge("main", "main", most); n != 2 || len(l) > 0 || e != api.OK {
		t.Error("Merge with itself", e)
	}
	if d, _ := h.Draft(2); !slices.Equal(d.Parents, []int{1, 1}) {
		t.Error("Merge with itself", d)
	}
	for h.Len() < api.MaxPast {
		if _, e := h.Commit("main", 1, "x"); e != api.OK {
			t.Fatal(e)
		}
	}
	if _, e := h.Commit("main", 1, "x"); e != api.ErrLong || h.Len() != api.MaxPast {
		t.Error("a draft more", e)
	}
	if _, e := h.Commit("main", -1, "x"); e != api.ErrArg {
		t.Error("a draft more", e)
	}
	if _, _, e := h.Merge("main", "more", 1); e != api.ErrLong || h.Len() != api.MaxPast {
		t.Error("a draft more", e)
	}
	text := h.Print()
	if _, bad := draft.Read(text); bad.Err != api.OK {
		t.Error("read at the limits", bad)
	}
	at := strings.Index(text, "branch")
	if _, bad := draft.Read(text[:at] + "draft 1 0:"); bad != (api.Spot{Err: api.ErrLong, At: at}) {
		t.Error("a draft more", bad)
	}
	if _, bad := draft.Read(text[:at] + "draft 1:"); bad != (api.Spot{Err: api.ErrHistory, At: at}) {
		t.Error("a draft more that may not be", bad)
	}
	if _, bad := draft.Read(text + "branch z 0"); bad != (api.Spot{Err: api.ErrLong, At: len(text)}) {
		t.Error("a branch more", bad)
	}
	if _, bad := draft.Read(text + "branch main 0"); bad != (api.Spot{Err: api.ErrHistory, At: len(text)}) {
		t.Error("a branch more that may not be", bad)
	}
	h, _ = draft.New(",")
	h.Branch("two", 0)
	h.Commit("main", 0, long[:40000]+",")
	h.Commit("two", 0, ","+long[:40000])
	if n, l, e := h.Merge("main", "two", 0); n != 0 || len(l) > 0 || e != api.ErrLong || h.Len() != 3 {
		t.Error("woven too long", e)
	}
}

// P28.10
func TestRead(t *testing.T) {
	spot := func(e api.Errno, at int) api.Spot { return api.Spot{Err: e, At: at} }
	head := "draft 0: +\"a b\"\n"
	n := len(head)
	for text, want := range map[string]api.Spot{
		"": spot(281, 0), "draft 0": spot(281, 0), "draft 0 0:": spot(281, 0), "draft 0:\nbranch a 1": spot(281, 9), "\n": spot(281, 0), "draft 0:": {}, "draft 0:\n": {}, "draft 0:\n\n": spot(281, 9), "draft 0: ": spot(281, 0), "draft 7:\nbranch a 0": {}, "branch a 0": spot(281, 0), "x": spot(281, 0),
		head: {}, head + "draft 0 0: =3": {}, head + "draft 0 0:": spot(281, n), head + "draft 0 0: =2 -\"b\"": {}, head + "draft 0 0: =2 +\"c\" -\"b\"": {}, head + "draft 0 0: =2 -\"b\" +\"c\"": spot(281, n), head + "draft 0 0: =1 =2": spot(281, n), head + "draft 0 0: =2 +\"bc\" -\"b\"": {}, head + "draft 0 0: =3 +\"c\"": spot(281, n), head + "draft 0 0: =2": spot(281, n), head + "draft 0 0: =2 -\"c\"": spot(281, n), head + "draft 0 0: =2 -\"b": spot(271, n+17), head + "draft 0 0:  =3": spot(271, n+11), head + "draft 0 0:=3": spot(281, n), head + "draft 0 0: =3 ": spot(271, n+14), head + "draft 0 0: x": spot(271, n+11),
		head + "draft 0: =3": spot(281, n), head + "draft 0 1: =3": spot(281, n), head + "draft 0 0 0: =3": {}, head + "draft 0 0 1: =3": spot(281, n), head + "draft 0 0 0 0: =3": spot(281, n), head + "draft 00 0: =3": spot(281, n), head + "draft -1 0: =3": spot(281, n), head + "draft 0  0: =3": spot(281, n), head + "draft 0 00: =3": spot(281, n), head + "draft 0 0 : =3": spot(281, n), head + "draft 999999999999999999 0: =3": {}, head + "draft 1000000000000000000 0: =3": spot(281, n), head + "Draft 0 0: =3": spot(281, n), head + "draft  0: =3": spot(281, n), head + "draft +0 0: =3": spot(281, n),
		head + "branch a 0\nbranch b 0": {}, head + "branch a 0\nbranch a 0": spot(281, n+11), head + "branch b 0\nbranch a 0": {}, head + "branch A 0": spot(281, n), head + "branch a": spot(281, n), head + "branch a 0 ": spot(281, n), head + "branch a 00": spot(281, n), head + "branch a 0\ndraft 0 0: =3": spot(281, n+11), head + "branch a 0\r\n": spot(281, n), head + "branch  0": spot(281, n),
		"draft 0: +\"" + strings.Repeat("a", api.MaxText) + "\"": {}, "draft 0: +\"" + strings.Repeat("a", api.MaxText+1) + "\"": spot(271, 10), "draft 0: +\"a\" +\"b\"": spot(281, 0), "draft 0: -\"a\"": spot(281, 0), "draft 0: =1": spot(281, 0),
		strings.Repeat("x", api.MaxPrint): spot(281, 0), strings.Repeat("x", api.MaxPrint+1): spot(3, api.MaxPrint),
	} {
		h, bad := draft.Read(text)
		if bad != want || (h == nil) != (bad.Err != api.OK) {
			t.Errorf("Read(%.60q): %v, want %v", text, bad, want)
		}
	}
}

// The examples of the chapter, and how long it takes.
func TestExamples(t *testing.T) {
	h, _ := draft.New("a b c")
	h.Branch("two", 0)
	a, _ := h.Commit("main", 1, "a x c")
	b, _ := h.Commit("two", 2, "a b d")
	n, l, e := h.Merge("main", "two", 1)
	if a != 1 || b != 2 || n != 3 || len(l) > 0 || e != api.OK {
		t.Error(a, b, n, l, e)
	}
	if o, _ := h.Origins(3); !slices.Equal(o, []api.Origin{{Span: api.Span{From: 0, To: 2}}, {Span: api.Span{From: 2, To: 3}, Draft: 1}, {Span: api.Span{From: 3, To: 4}}, {Span: api.Span{From: 4, To: 5}, Draft: 2}}) {
		t.Error(o)
	}
	if got := h.Print(); got != "draft 0: +\"a b c\"\ndraft 1 0: =2 +\"x\" -\"b\" =2\ndraft 2 0: =4 +\"d\" -\"c\"\ndraft 1 1 2: =4 +\"d\" -\"c\"\nbranch main 3\nbranch two 2\n" {
		t.Errorf("%q", got)
	}
	s, l, _ := draft.Weave("a b", "a", "a b c")
	if s != "a" || !slices.Equal(l, []api.Conflict{{Span: api.Span{From: 1, To: 1}, Base: " b", Into: "", From: " b c"}}) {
		t.Error(s, l)
	}
	begun := time.Now()
	x, y := "", ""
	c := chance(9)
	for range 510 {
		x += c.of("a", "b", "c", "d") + " "
		y += " " + c.of("a", "b", "c", "d")
	}
	h, _ = draft.New(x)
	for k := range 100 {
		h.Commit("main", 0, []string{y, x}[k%2])
	}
	if _, bad := draft.Read(h.Print()); bad.Err != api.OK {
		t.Error(bad)
	}
	if time.Since(begun) > 20*time.Second {
		t.Error("too slow:", time.Since(begun))
	}
}

// R4
func TestNil(t *testing.T) {
	var h *draft.History
	_, a := h.Commit("x", -1, "")
	_, _, b := h.Merge("x", "y", -1)
	_, c := h.Draft(0)
	_, d := h.Text(0)
	_, e := h.Head("main")
	_, f := h.Base(0, 0)
	_, g := h.Origins(0)
	for k, e := range []api.Errno{h.Branch("", 0), h.Drop(""), a, b, c, d, e, f, g} {
		if e != api.ErrNil {
			t.Error(k, e)
		}
	}
	if h.Len() != 0 || h.Print() != "" {
		t.Error("a nil history")
	}
	for range h.Branches() {
		t.Error("Branches")
	}
	for range h.Log(0) {
		t.Error("Log")
	}
}
