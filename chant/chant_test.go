package chant_test

import (
	"math"
	"runtime"
	"slices"
	"testing"

	"canticle/api"
	"canticle/chant"
	"canticle/lexicon"
	"canticle/line"
	"canticle/metre"
	"canticle/poem"
	"canticle/scan"
)

type chance uint64

func (c *chance) less(n int) int {
	*c = *c*6364136223846793005 + 1442695040888963407
	return int(uint64(*c)>>33) % n
}

var (
	nan  = math.NaN()
	inf  = math.Inf(1)
	zero = math.Copysign(0, -1)
)

func same(a, b float64) bool { return a != a && b != b || math.Float64bits(a) == math.Float64bits(b) }

func sameNote(a, b api.Note) bool {
	return same(a.At, b.At) && same(a.Long, b.Long) && a.Line == b.Line && a.Beat == b.Beat && a.Word == b.Word && a.Strong == b.Strong
}

func sameSung(a, b api.Sung) bool {
	return a.Voice == b.Voice && a.Number == b.Number && sameNote(a.Note, b.Note)
}

func (c *chance) float() float64 {
	if c.less(4) == 0 {
		return []float64{nan, inf, -inf, zero, 0, 1e300, -1e300}[c.less(7)]
	}
	return float64(c.less(20)-6) / float64(1+c.less(3))
}

func (c *chance) notes(n int) []api.Note {
	var l []api.Note
	for range n {
		l = append(l, api.Note{Line: c.less(3), Beat: c.less(9) - 4, Word: c.less(5), Strong: c.less(2) == 0, At: c.float(), Long: c.float()})
	}
	return l
}

func (c *chance) voices() [][]api.Note {
	var l [][]api.Note
	for range c.less(5) {
		l = append(l, c.notes(c.less(5)))
	}
	return l
}

func plain(x float64) float64 {
	if x == 0 {
		return 0
	}
	return x
}

// P31.1
func TestMay(t *testing.T) {
	good := api.Tempo{Beat: 0.5, Strong: 1, Weak: 1, Rest: 1, Slow: 1}
	if !chant.May(good) || chant.May(api.Tempo{}) {
		t.Error("May")
	}
	for k := range 5 {
		for _, x := range []float64{0, zero, -1, math.SmallestNonzeroFloat64, -math.SmallestNonzeroFloat64, 1 << 20, math.Nextafter(1<<20, inf), inf, -inf, nan} {
			y := good
			*[]*float64{&y.Beat, &y.Slow, &y.Strong, &y.Weak, &y.Rest}[k] = x
			want := x >= 0 && x <= 1<<20 && (k > 1 || x > 0)
			if chant.May(y) != want {
				t.Errorf("May(%v) = %v", y, !want)
			}
		}
	}
}

func book(t *testing.T) *lexicon.Lexicon {
	t.Helper()
	x, bad := lexicon.Read("the = \u00f0\u0259, \u00f0i\nhour = \u02c8au\u032fr\nof = \u02c8\u0254v\nday = d\u02c8e\u02d0\nonly = \u02c8o\u02d0nli\na = \u0259\n", nil)
	if bad.Err != api.OK {
		t.Fatal(bad)
	}
	return x
}

func verse(t *testing.T, text string) *poem.Poem {
	t.Helper()
	p, bad := poem.Read(text)
	if bad.Err != api.OK {
		t.Fatal(bad)
	}
	return p
}

func measure(t *testing.T, text string) api.Metre {
	t.Helper()
	m, bad := metre.Read(text)
	if bad.Err != api.OK {
		t.Fatal(bad)
	}
	return m
}

var taste = api.Taste{Stress: api.RuleFirst, Rates: scan.House(), Most: 2}

// P31.2, P31.9
func TestPlan(t *testing.T) {
	x := book(t)
	m := measure(t, "iamb; any trochee 1, xx/ 1; end x 1, xx 2")
	c := chance(1)
	for range 400 {
		text := ""
		for range c.less(6) {
			for range 1 + c.less(3) {
				text += []string{"the ", "hour ", "of ", "day ", "only ", "a "}[c.less(6)]
			}
			text += []string{"\n", "\n\n"}[c.less(2)]
		}
		p := verse(t, text)
		f := func() float64 { return []float64{0, zero, 0.1, 1, 0.7, 3, 1 << 20}[c.less(7)] }
		y := api.Tempo{Beat: []float64{0.5, 0.1, 1 << 20}[c.less(3)], Strong: f(), Weak: f(), Rest: f(), Slow: []float64{1, 0.9, 1.1, 1 << 20}[c.less(4)]}
		var want []api.Note
		now, slow := 0.0, 1.0
		for k, v := range p.Each() {
			l, _ := line.New(x, taste.Stress, v.Text)
			best, e := scan.Best(l, m, taste.Rates)
			if e != api.OK {
				if got, at, f := chant.Plan(x, p, m, taste, y); len(got) > 0 || at != k || f != e {
					t.Fatalf("Plan of %q: %d, %v, want %d, %v", text, at, f, k, e)
				}
				want = nil
				now = -1
				break
			}
			if k > 0 {
				slow *= y.Slow
			}
			show, _ := scan.Show(l, m, best)
			signs := ""
			for _, r := range show {
				if r == ' ' {
					break
				}
				if r != '|' {
					signs += string(r)
				}
			}
			beats, _ := l.Beats(best.Reading)
			for n, b := range beats {
				by := y.Beat * y.Weak
				if signs[n] == '/' {
					by = y.Beat * y.Strong
				}
				long := by * slow
				want = append(want, api.Note{Line: k, Beat: n, Word: b.Word, Strong: signs[n] == '/', At: plain(now), Long: plain(long)})
				now += long
			}
			rest := y.Rest * y.Beat
			rest *= slow
			now += rest
		}
		if now == -1 {
			continue
		}
		got, at, e := chant.Plan(x, p, m, taste, y)
		if e != api.OK || at != 0 || !slices.EqualFunc(got, want, sameNote) {
			t.Fatalf("Plan of %q by %v: %v, %d, %v, want %v", text, y, got, at, e, want)
		}
		for k := 1; k < len(got); k++ {
			if got[k].At < got[k-1].At {
				t.Fatalf("Plan of %q falls: %v", text, got)
			}
		}
	}
	good := api.Tempo{Beat: 0.5, Strong: 2, Weak: 1, Rest: 1, Slow: 2}
	day := verse(t, "the day\na hour")
	for k, z := range []struct {
		x    *lexicon.Lexicon
		p    *poem.Poem
		m    api.Metre
		y    api.Taste
		t    api.Tempo
		line int
		want api.Errno
	}{{nil, day, api.Metre{}, taste, good, 0, api.ErrNil}, {x, nil, api.Metre{}, taste, good, 0, api.ErrNil}, {x, day, api.Metre{}, taste, good, 0, api.ErrArg}, {x, day, m, api.Taste{}, good, 0, api.ErrArg}, {x, day, m, taste, api.Tempo{}, 0, api.ErrArg}, {x, verse(t, "the day of hour\na hour"), measure(t, "2 iamb"), taste, good, 1, api.ErrNone}, {x, verse(t, "the day\na frob"), m, taste, good, 1, api.ErrNone}, {x, verse(t, "!"), m, taste, good, 0, api.ErrNone}, {x, verse(t, ""), m, taste, good, 0, api.OK}} {
		if l, at, e := chant.Plan(z.x, z.p, z.m, z.y, z.t); len(l) > 0 || at != z.line || e != z.want {
			t.Errorf("%d: Plan: %d, %v", k, at, e)
		}
	}
	l, _, _ := chant.Plan(x, day, measure(t, "iamb"), taste, good)
	want := []api.Note{{At: 0, Long: 0.5}, {Beat: 1, Word: 1, Strong: true, At: 0.5, Long: 1}, {Line: 1, At: 2, Long: 1}, {Line: 1, Beat: 1, Word: 1, Strong: true, At: 3, Long: 2}}
	if !slices.EqualFunc(l, want, sameNote) || chant.Length(l) != 4.5 {
		t.Error(l)
	}
	if s, e := chant.Scale(l, 9); e != api.OK || s[3].At != 6 || s[3].Long != 4 {
		t.Error(s, e)
	}
}

// P31.3 to P31.5
func TestLists(t *testing.T) {
	c := chance(2)
	for range 5000 {
		l := c.notes(c.less(5))
		before := slices.Clone(l)
		sum := 0.0
		for _, n := range l {
			sum += n.Long
		}
		if got := chant.Length(l); !same(got, sum) {
			t.Fatalf("Length(%v): %v", l, got)
		}
		total := c.float()
		got, e := chant.Scale(l, total)
		if !(total >= 0 && total < inf && sum > 0 && sum < inf) {
			if e != api.ErrArg || len(got) > 0 {
				t.Fatalf("Scale(%v, %v): %v", l, total, e)
			}
		} else {
			q := total / sum
			for k, n := range l {
				n.At, n.Long = plain(n.At*q), plain(n.Long*q)
				if e != api.OK || !sameNote(got[k], n) {
					t.Fatalf("Scale(%v, %v): %v, %v", l, total, got, e)
				}
			}
		}
		step := c.float()
		want, right := []int(nil), true
		for _, n := range l {
			x := n.At / step
			right = right && math.Abs(x) <= 1<<53
			if right {
				want = append(want, int(math.RoundToEven(x)))
			}
		}
		g, e := chant.Grid(l, step)
		switch {
		case !(step > 0 && step < inf):
			if e != api.ErrArg || len(g) > 0 {
				t.Fatalf("Grid(%v, %v): %v", l, step, e)
			}
		case !right:
			if e != api.ErrRange || len(g) > 0 {
				t.Fatalf("Grid(%v, %v): %v", l, step, e)
			}
		case e != api.OK || !slices.Equal(g, want):
			t.Fatalf("Grid(%v, %v): %v, %v, want %v", l, step, g, e, want)
		}
		voices, delay := c.less(19)-1, c.float()
		r, e := chant.Round(l, voices, delay)
		if !(voices >= 1 && voices <= 16 && delay >= 0 && delay < inf) {
			if e != api.ErrArg || len(r) > 0 {
				t.Fatalf("Round(%v, %d, %v): %v", l, voices, delay, e)
			}
		} else {
			if e != api.OK || len(r) != voices {
				t.Fatalf("Round(%v, %d, %v): %v", l, voices, delay, e)
			}
			for v, own := range r {
				later := float64(v) * delay
				for k, n := range own {
					x := l[k]
					x.At = plain(x.At + later)
					if !sameNote(n, x) {
						t.Fatalf("Round(%v, %d, %v): %v", l, voices, delay, own)
					}
				}
			}
		}
		if !slices.EqualFunc(l, before, sameNote) {
			t.Fatal("what was handed in has changed")
		}
	}
	at := func(l ...float64) []api.Note {
		var out []api.Note
		for _, x := range l {
			out = append(out, api.Note{At: x})
		}
		return out
	}
	if g, e := chant.Grid(at(0.25, 0.75, -0.25, 1<<52, -1<<52), 0.5); e != api.OK || !slices.Equal(g, []int{0, 2, 0, 1 << 53, -1 << 53}) {
		t.Error(g, e)
	}
	if _, e := chant.Grid(at(math.Nextafter(1<<52, inf)), 0.5); e != api.ErrRange {
		t.Error(e)
	}
	if r, e := chant.Round(at(1), 3, 0.5); e != api.OK || r[1][0].At != 1.5 || r[2][0].At != 2 {
		t.Error(r, e)
	}
	long := make([]api.Note, api.MaxNotes/16)
	if r, e := chant.Round(long, 16, 0); e != api.OK || len(r) != 16 {
		t.Error("Round at the limit", e)
	}
	if r, e := chant.Round(append(long, api.Note{}), 16, 0); e != api.ErrLong || len(r) > 0 {
		t.Error("Round behind it", e)
	}
	if _, e := chant.Round(append(long, api.Note{}), 17, 0); e != api.ErrArg {
		t.Error("Round behind it", e)
	}
}

// less is the order of notes, as the chapter says it.
func less(a, b api.Sung) int {
	x, y := a.Note.At, b.Note.At
	switch {
	case x < y || x == x && y != y:
		return -1
	case x > y || x != x && y == y:
		return 1
	case a.Voice != b.Voice:
		return a.Voice - b.Voice
	}
	return a.Number - b.Number
}

// P31.6, P31.7, P31.9
func TestSing(t *testing.T) {
	c := chance(3)
	procs := runtime.GOMAXPROCS(0)
	defer runtime.GOMAXPROCS(procs)
	for round := range 1500 {
		runtime.GOMAXPROCS(1 + round%4)
		l := c.voices()
		var all []api.Sung
		for v, own := range l {
			for k, n := range own {
				all = append(all, api.Sung{Voice: v, Number: k, Note: n})
			}
		}
		slices.SortStableFunc(all, less)
		got, e := chant.Merge(l)
		free, f := chant.Free(l)
		if e != api.OK || f != api.OK || !slices.EqualFunc(got, all, sameSung) || !slices.EqualFunc(free, all, sameSung) {
			t.Fatalf("Merge(%v): %v; Free: %v; want %v", l, got, free, all)
		}
		var order []int
		for range c.less(12) {
			order = append(order, []int{0, 1, 2, 3, 4, -1, 1 << 40, -1 << 63}[c.less(8)])
		}
		next := make([]int, len(l))
		var want []api.Sung
		take := func(v int) {
			if v >= 0 && v < len(l) && next[v] < len(l[v]) {
				want = append(want, api.Sung{Voice: v, Number: next[v], Note: l[v][next[v]]})
				next[v]++
			}
		}
		for _, v := range order {
			take(v)
		}
		for len(want) < len(all) {
			for v := range l {
				take(v)
			}
		}
		sung, e := chant.Sing(l, order)
		if e != api.OK || !slices.EqualFunc(sung, want, sameSung) {
			t.Fatalf("Sing(%v, %v): %v, %v, want %v", l, order, sung, e, want)
		}
		counted(t, l)
	}
}

// P31.8, P31.9
func counted(t *testing.T, l [][]api.Note) {
	t.Helper()
	most := 0
	moments := []float64{nan, inf, -inf, 0, zero, 1}
	for _, own := range l {
		for _, n := range own {
			moments = append(moments, n.At, n.At+n.Long)
		}
	}
	for k, at := range moments {
		want := 0
		begins := false
		for _, own := range l {
			for _, n := range own {
				if n.At <= at && n.At+n.Long > at {
					want++
				}
				begins = begins || n.At == at
			}
		}
		if got := chant.Sounding(l, at); got != want {
			t.Fatalf("Sounding(%v, %v): %d, want %d", l, at, got, want)
		}
		if k >= 6 && begins {
			most = max(most, want)
		}
	}
	if got := chant.Most(l); got != most {
		t.Fatalf("Most(%v): %d, want %d", l, got, most)
	}
}

// P31.6, P31.7: limits.
func TestLimits(t *testing.T) {
	one := make([]api.Note, api.MaxNotes/16)
	full := slices.Repeat([][]api.Note{one}, 16)
	more := append(slices.Clone(full[:15]), append(slices.Clone(one), api.Note{}))
	for k, l := range [][][]api.Note{full, make([][]api.Note, 16), nil, more, make([][]api.Note, 17)} {
		want := api.OK
		if k > 2 {
			want = api.ErrLong
		}
		a, e := chant.Merge(l)
		b, f := chant.Sing(l, nil)
		c, g := chant.Free(l)
		if e != want || f != want || g != want || k > 0 && len(a)+len(b)+len(c) > 0 || k == 0 && (len(a) != api.MaxNotes || len(b) != api.MaxNotes || len(c) != api.MaxNotes) {
			t.Errorf("%d: %v, %v, %v", k, e, f, g)
		}
	}
	if _, e := chant.Sing(full[:1], make([]int, api.MaxNotes)); e != api.OK {
		t.Error("an order at the limit", e)
	}
	if l, e := chant.Sing(full[:1], make([]int, api.MaxNotes+1)); e != api.ErrLong || len(l) > 0 {
		t.Error("an order behind it", e)
	}
	long := slices.Repeat([]api.Note{{At: 1, Long: 2}}, 1<<17)
	many := slices.Repeat([][]api.Note{long[:7]}, 1000)
	if chant.Most([][]api.Note{long}) != 1<<17 || chant.Most(many) != 7000 || chant.Sounding(many, 2) != 7000 || chant.Most(nil) != 0 {
		t.Error("any voices")
	}
	if n := runtime.NumGoroutine(); n > 10 {
		t.Error("goroutines that go on:", n)
	}
}

// The examples of the chapter.
func TestExamples(t *testing.T) {
	l := [][]api.Note{{{At: 1}, {At: nan}}, {{At: 0}, {At: 1}}}
	show := func(s []api.Sung, e api.Errno) string {
		out := ""
		for _, x := range s {
			out += string(rune('0'+x.Voice)) + string(rune('0'+x.Number)) + " "
		}
		return out
	}
	if got := show(chant.Merge(l)); got != "10 00 11 01 " {
		t.Error(got)
	}
	if got := show(chant.Sing(l, []int{1, 7, 1, 1})); got != "10 11 00 01 " {
		t.Error(got)
	}
	one := [][]api.Note{{{At: 1, Long: 2}}}
	if chant.Sounding(one, 0.5) != 0 || chant.Sounding(one, 1) != 1 || chant.Sounding(one, 3) != 0 {
		t.Error("Sounding")
	}
	if chant.Most([][]api.Note{{{Long: 1}, {}, {Long: 1}}}) != 2 {
		t.Error("Most")
	}
}
