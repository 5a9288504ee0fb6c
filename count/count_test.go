package count_test

import (
	"cmp"
	"math"
	"math/big"
	"slices"
	"strconv"
	"strings"
	"testing"

	"canticle/api"
	"canticle/count"
	"canticle/poem"
)

type chance uint64

func (c *chance) next() uint64 {
	*c = *c*6364136223846793005 + 1442695040888963407
	return uint64(*c) >> 16
}

func (c *chance) less(n int) int { return int(c.next()>>17) % n }

var (
	nan  = math.NaN()
	inf  = math.Inf(1)
	zero = math.Copysign(0, -1)
)

// same tells whether two floats are one: bit by bit, but that NaN is NaN.
func same(a, b float64) bool {
	return a != a && b != b || math.Float64bits(a) == math.Float64bits(b)
}

// float is a float by chance, odd ones among them.
func (c *chance) float(odd bool) float64 {
	if odd && c.less(3) == 0 {
		return []float64{nan, inf, -inf, zero, 0, math.MaxFloat64, -math.MaxFloat64, math.SmallestNonzeroFloat64, -math.SmallestNonzeroFloat64}[c.less(9)]
	}
	switch c.less(3) {
	case 0:
		return float64(c.less(9) - 4)
	case 1:
		return math.Ldexp(float64(c.less(1<<20)-1<<19), c.less(200)-100)
	}
	return float64(c.less(1000)-500) / 7
}

func (c *chance) floats(n int, odd bool) []float64 {
	var l []float64
	for range n {
		l = append(l, c.float(odd))
	}
	return l
}

// P20.1 to P20.3, P20.13
func TestTally(t *testing.T) {
	c := chance(1)
	for range 1000 {
		a, b := count.New(), count.New()
		model := map[string]int{}
		other := map[string]int{}
		for range c.less(20) {
			w, n := strconv.Itoa(c.less(6)), 1+c.less(3)
			if e := a.Add(w, n); e != api.OK {
				t.Fatal(e)
			}
			model[w] += n
			if c.less(2) == 0 {
				b.Add(w+"\xff", n)
				other[w+"\xff"] += n
			}
		}
		holds(t, a, model)
		if e := a.Merge(b); e != api.OK {
			t.Fatal(e)
		}
		for w, n := range other {
			model[w] += n
		}
		holds(t, a, model)
		holds(t, b, other)
		if e := a.Merge(a); e != api.OK {
			t.Fatal(e)
		}
		for w, n := range model {
			model[w] = 2 * n
		}
		holds(t, a, model)
	}
	a := count.New()
	a.Add("x", 1)
	for w := range a.Each() {
		a.Add(w+"y", 5)
		if len(w) > 1 {
			t.Error("Each tells what was added behind its beginning")
		}
	}
	a.Add("z", 1)
	for range a.Each() {
		break
	}
}

func holds(t *testing.T, a *count.Tally, model map[string]int) {
	t.Helper()
	type pair struct {
		word string
		n    int
	}
	var want, got []pair
	total := 0
	for w, n := range model {
		want = append(want, pair{w, n})
		total += n
		if a.Count(w) != n {
			t.Fatalf("Count(%q): %d, want %d", w, a.Count(w), n)
		}
	}
	slices.SortFunc(want, func(x, y pair) int { return cmp.Or(y.n-x.n, strings.Compare(x.word, y.word)) })
	for w, n := range a.Each() {
		got = append(got, pair{w, n})
	}
	if !slices.Equal(got, want) || a.Len() != len(want) || a.Total() != total || a.Count("none") != 0 {
		t.Fatalf("%v: %v, %d, %d", want, got, a.Len(), a.Total())
	}
}

// P20.1, P20.2: what is refused.
func TestRefused(t *testing.T) {
	a := count.New()
	for _, n := range []int{0, -1, api.MaxTotal + 1, 1<<63 - 1, -1 << 63} {
		if e := a.Add("a", n); e != api.ErrArg || a.Len() != 0 {
			t.Errorf("Add of %d: %v", n, e)
		}
	}
	for k := range api.MaxWords {
		if e := a.Add(strconv.Itoa(k), 1); e != api.OK {
			t.Fatal(e)
		}
	}
	if e := a.Add("more", 1); e != api.ErrLong || a.Len() != api.MaxWords || a.Count("more") != 0 {
		t.Error("a word more", e)
	}
	if e := a.Add("more", 0); e != api.ErrArg {
		t.Error("a word more, no times", e)
	}
	if e := a.Add("7", api.MaxTotal-api.MaxWords+1); e != api.ErrLong || a.Total() != api.MaxWords {
		t.Error("too many in all", e)
	}
	one := count.New()
	one.Add("more", 1)
	if e := a.Merge(one); e != api.ErrLong || a.Total() != api.MaxWords {
		t.Error("Merge of a word more", e)
	}
	if e := a.Add("7", api.MaxTotal-api.MaxWords); e != api.OK || a.Total() != api.MaxTotal {
		t.Error("as many as go", e)
	}
	if e := a.Add("7", 1); e != api.ErrLong {
		t.Error("one more", e)
	}
	if e := a.Merge(a); e != api.ErrLong || a.Total() != api.MaxTotal {
		t.Error("Merge with itself", e)
	}
	half := count.New()
	half.Add("a", api.MaxTotal/2)
	if e := half.Merge(half); e != api.OK || half.Total() != api.MaxTotal {
		t.Error("Merge to the limit", e)
	}
	if e := half.Merge(one); e != api.ErrLong || half.Len() != 1 {
		t.Error("Merge behind it", e)
	}
	var none *count.Tally
	_, z := none.Zipf()
	if none.Add("", 0) != api.ErrNil || none.Merge(a) != api.ErrNil || a.Merge(nil) != api.ErrNil || none.Len()+none.Total()+none.Count("a") != 0 || z != api.ErrNil || !isNaN(none.Rate(), none.Entropy(), count.Cosine(none, a), count.Cosine(a, none), count.Cosine(count.New(), a), count.New().Rate(), count.New().Entropy()) {
		t.Error("a nil tally")
	}
	for range none.Each() {
		t.Error("Each")
	}
	if x, e := count.Of(nil); x != nil || e != api.ErrNil {
		t.Error("Of nil", e)
	}
}

func isNaN(l ...float64) bool {
	return !slices.ContainsFunc(l, func(x float64) bool { return x == x })
}

// P20.1, P20.10
func TestPoem(t *testing.T) {
	p, _ := poem.Read("# the title\n\nThe rose, the \u00e9\xff!\n  rose\n\n1")
	a, e := count.Of(p)
	if e != api.OK {
		t.Fatal(e)
	}
	holds(t, a, map[string]int{"The": 1, "rose": 2, "the": 1, "\u00e9": 1})
	for way, want := range map[int][]float64{api.InBytes: {18, 4, 1}, api.InRunes: {17, 4, 1}, api.InWords: {4, 1, 0}} {
		if l, e := count.Lengths(p, way); e != api.OK || !slices.Equal(l, want) {
			t.Errorf("Lengths by %d: %v, %v", way, l, e)
		}
	}
	for _, way := range []int{0, 4, -1} {
		if l, e := count.Lengths(p, way); e != api.ErrArg || len(l) > 0 {
			t.Errorf("Lengths by %d: %v", way, e)
		}
		if _, e := count.Lengths(nil, way); e != api.ErrNil {
			t.Errorf("Lengths of nil: %v", e)
		}
	}
	text := ""
	for k := range api.MaxWords {
		text += string([]byte{'a' + byte(k/676), 'a' + byte(k/26%26), 'a' + byte(k%26)}) + " "
		if k%200 == 199 {
			text += "\n"
		}
	}
	p, _ = poem.Read(text + "\naaa aab")
	if a, e := count.Of(p); e != api.OK || a.Len() != api.MaxWords {
		t.Error("Of as many as go", e)
	}
	p, _ = poem.Read(text + "\nzzzz")
	if a, e := count.Of(p); e != api.ErrLong || a != nil {
		t.Error("Of one more", e)
	}
}

// log2 is Log2 by the chapter's steps, in whole numbers of big bits rounded as floats are.
func log2(x float64) float64 {
	f, e := math.Frexp(x)
	m := new(big.Float).SetPrec(53).SetFloat64(f * 2)
	y, s := float64(e-1), 1.0
	for range 52 {
		m.Mul(m, m)
		s /= 2
		if v, _ := m.Float64(); v >= 2 {
			m.Quo(m, big.NewFloat(2))
			y += s
		}
	}
	return y
}

// P20.4, P20.14
func TestLog2(t *testing.T) {
	for _, x := range []struct{ x, want float64 }{{8, 3}, {1, 0}, {0.125, -3}, {0, -inf}, {zero, -inf}, {-1, nan}, {-inf, nan}, {nan, nan}, {inf, inf}, {math.SmallestNonzeroFloat64, -1074}, {-math.SmallestNonzeroFloat64, nan}, {3, math.Float64frombits(0x3FF95C01A39FBD68)}} {
		if got := count.Log2(x.x); !same(got, x.want) {
			t.Errorf("Log2(%v) = %v (%x)", x.x, got, math.Float64bits(got))
		}
	}
	for k := -1074; k < 1024; k++ {
		if got := count.Log2(math.Ldexp(1, k)); got != float64(k) {
			t.Errorf("Log2 of 2 to the %d: %v", k, got)
		}
	}
	c := chance(2)
	for range 20000 {
		x := math.Float64frombits(c.next()<<16 | c.next()&0xFFFF)
		if x < 0 {
			x = -x
		}
		if x != x || x == 0 || x > math.MaxFloat64 {
			continue
		}
		if got, want := count.Log2(x), log2(x); !same(got, want) {
			t.Fatalf("Log2(%v) = %v, want %v", x, got, want)
		}
		if math.Abs(count.Log2(x)-math.Log2(x)) > 1e-9 {
			t.Fatalf("Log2(%v) = %v", x, count.Log2(x))
		}
	}
	for k := range 52 {
		sub := math.Float64frombits(1<<k | 1<<k>>1)
		if got, want := count.Log2(sub), log2(sub); !same(got, want) {
			t.Fatalf("Log2(%v) = %v, want %v", sub, got, want)
		}
	}
}

// P20.5, P20.14
func TestOrder(t *testing.T) {
	l := []float64{nan, -inf, -2, -math.SmallestNonzeroFloat64, zero, 0, 1, math.MaxFloat64, inf}
	rank := []int{0, 1, 2, 3, 4, 4, 5, 6, 7}
	for i, a := range l {
		for j, b := range l {
			if got := count.Order(a, b); got != cmp.Compare(rank[i], rank[j]) {
				t.Errorf("Order(%v, %v) = %d", a, b, got)
			}
		}
	}
}

// P20.6, P20.9
func TestMeans(t *testing.T) {
	plain := func(x float64) float64 {
		if x == 0 {
			return 0
		}
		return x
	}
	c := chance(3)
	for range 5000 {
		l := c.floats(c.less(6), c.less(2) == 0)
		m := c.floats(len(l), c.less(2) == 0)
		if len(l) == 0 {
			if !isNaN(count.Mean(l), count.Spread(l)) {
				t.Fatal("of none")
			}
			continue
		}
		mean := func(l []float64) float64 {
			s := 0.0
			for _, x := range l {
				s += x
			}
			return s / float64(len(l))
		}
		if got := count.Mean(l); !same(got, plain(mean(l))) {
			t.Fatalf("Mean(%v) = %v", l, got)
		}
		sum, up := 0.0, 0.0
		for k, x := range l {
			d := x - mean(l)
			e := m[k] - mean(m)
			p, q := d*d, d*e
			sum += p
			up += q
		}
		if got := count.Spread(l); !same(got, plain(math.Sqrt(sum/float64(len(l))))) {
			t.Fatalf("Spread(%v) = %v", l, got)
		}
		got, e := count.Slope(l, m)
		want := up / sum
		if sum == 0 {
			want = nan
		}
		if len(l) < 2 {
			if e != api.ErrNone || got != 0 {
				t.Fatalf("Slope(%v, %v): %v, %v", l, m, got, e)
			}
		} else if e != api.OK || !same(got, plain(want)) {
			t.Fatalf("Slope(%v, %v) = %v, %v, want %v", l, m, got, e, want)
		}
	}
	tiny := -math.SmallestNonzeroFloat64
	for _, x := range []struct{ got, want float64 }{{count.Mean([]float64{1, 2, 4}), 2.3333333333333335}, {count.Mean([]float64{zero}), 0}, {count.Mean([]float64{tiny, 0}), 0}, {count.Spread([]float64{1, 3}), 1}, {count.Spread([]float64{5}), 0}, {count.Mean([]float64{inf, -inf}), nan}} {
		if !same(x.got, x.want) {
			t.Errorf("%v, want %v", x.got, x.want)
		}
	}
	if x, e := count.Slope([]float64{1}, nil); x != 0 || e != api.ErrArg {
		t.Error("unlike many", e)
	}
	if x, e := count.Slope([]float64{0, 1, 2}, []float64{1, 3, 5}); x != 2 || e != api.OK {
		t.Error("Slope", x, e)
	}
	if x, e := count.Slope([]float64{0, 1}, []float64{0, tiny}); e != api.OK || !same(x, 0) && x != tiny {
		t.Error("Slope", x, e)
	}
}

// P20.7, P20.15
func TestQuantile(t *testing.T) {
	c := chance(4)
	for range 5000 {
		l := c.floats(c.less(6), c.less(3) == 0)
		before := slices.Clone(l)
		q := []float64{0, 0.25, 0.5, 1, 1.0 / 3, zero, 0.9999999999999999, 1.5, -0.1, nan, inf}[c.less(11)]
		got, e := count.Quantile(l, q)
		if !slices.EqualFunc(l, before, same) {
			t.Fatal("the list has changed")
		}
		switch {
		case !(q >= 0 && q <= 1):
			if got != 0 || e != api.ErrArg {
				t.Fatalf("Quantile(%v, %v): %v, %v", l, q, got, e)
			}
			continue
		case len(l) == 0:
			if got != 0 || e != api.ErrNone {
				t.Fatalf("Quantile(%v, %v): %v, %v", l, q, got, e)
			}
			continue
		case slices.ContainsFunc(l, func(x float64) bool { return x != x }):
			if got == got || e != api.OK {
				t.Fatalf("Quantile(%v, %v): %v, %v", l, q, got, e)
			}
			continue
		}
		s := slices.Clone(l)
		slices.Sort(s)
		h := q * float64(len(l)-1)
		i := math.Floor(h)
		f := h - i
		want := s[int(i)]
		if int(i)+1 < len(s) && f != 0 && s[int(i)+1] != want {
			b := s[int(i)+1]
			d := b - want
			p := f * d
			if want += p; want > b {
				want = b
			}
		}
		if want == 0 {
			want = 0
		}
		if e != api.OK || !same(got, want) {
			t.Fatalf("Quantile(%v, %v): %v, %v, want %v", l, q, got, e, want)
		}
		if finite := slices.Max(s) <= math.MaxFloat64 && s[0] >= -math.MaxFloat64; finite && (got < s[0] || got > slices.Max(s)) {
			t.Fatalf("Quantile(%v, %v): %v", l, q, got)
		}
	}
	for q, want := range map[float64]float64{0: 1, 0.25: 2, 0.5: 3, 1: 4} {
		if got, e := count.Quantile([]float64{4, 1, 3}, q); got != want || e != api.OK {
			t.Errorf("Quantile at %v: %v, %v", q, got, e)
		}
	}
	if got, _ := count.Quantile([]float64{zero}, 0.5); !same(got, 0) {
		t.Error("a nought")
	}
}

// P20.8, P20.15
func TestBins(t *testing.T) {
	c := chance(5)
	for range 5000 {
		l, edges := c.floats(c.less(9), true), c.floats(c.less(4), c.less(3) == 0)
		if c.less(4) > 0 {
			slices.Sort(edges)
		}
		right := true
		for k, x := range edges {
			right = right && x == x && (k == 0 || x > edges[k-1])
		}
		want := make([]int, len(edges)+2)
		for _, x := range l {
			k := len(edges) + 1
			if x == x {
				for k = 0; k < len(edges) && x >= edges[k]; k++ {
				}
			}
			want[k]++
		}
		got, e := count.Bins(l, edges)
		if !right && (e != api.ErrArg || len(got) > 0) || right && (e != api.OK || !slices.Equal(got, want)) {
			t.Fatalf("Bins(%v, %v): %v, %v, want %v", l, edges, got, e, want)
		}
	}
	l := []float64{1, 2, 2, nan, 5}
	if got, _ := count.Bins(l, []float64{2, 4}); !slices.Equal(got, []int{1, 2, 1, 1}) {
		t.Error(got)
	}
	if got, _ := count.Bins(l, nil); !slices.Equal(got, []int{4, 1}) {
		t.Error(got)
	}
	if got, e := count.Bins(l, []float64{2, 2}); len(got) > 0 || e != api.ErrArg {
		t.Error(e)
	}
}

// P20.11, P20.12, P20.15
func TestRich(t *testing.T) {
	c := chance(6)
	for range 2000 {
		a, b := count.New(), count.New()
		for range 1 + c.less(12) {
			a.Add(strconv.Itoa(c.less(8)), 1+c.less(9))
			b.Add(strconv.Itoa(c.less(8)), 1+c.less(9))
		}
		if got := a.Rate(); !same(got, float64(a.Len())/float64(a.Total())) || got <= 0 || got > 1 {
			t.Fatal("Rate", got)
		}
		sum := 0.0
		var xs, ys []float64
		for _, n := range a.Each() {
			r := float64(n) / float64(a.Total())
			p := r * (0 - count.Log2(r))
			sum += p
			xs, ys = append(xs, count.Log2(float64(len(xs)+1))), append(ys, count.Log2(float64(n)))
		}
		if got := a.Entropy(); !same(got, sum) {
			t.Fatal("Entropy", got, sum)
		}
		got, e := a.Zipf()
		want, f := count.Slope(xs, ys)
		if e != f || !same(got, want) {
			t.Fatal("Zipf", got, e, want)
		}
		d, x, y := 0.0, 0.0, 0.0
		for k := range 8 {
			m, n := float64(a.Count(strconv.Itoa(k))), float64(b.Count(strconv.Itoa(k)))
			d, x, y = d+m*n, x+m*m, y+n*n
		}
		if got, back := count.Cosine(a, b), count.Cosine(b, a); !same(got, back) || !same(got, d/(math.Sqrt(x)*math.Sqrt(y))) {
			t.Fatal("Cosine", got, back)
		}
	}
	tally := func(l ...int) *count.Tally {
		a := count.New()
		for k, n := range l {
			a.Add(string(rune('a'+k)), n)
		}
		return a
	}
	x, e := tally(1, 1).Zipf()
	y, f := tally(4, 2).Zipf()
	if !same(tally(2, 1, 2).Rate(), 0.6) || !same(tally(1, 1).Entropy(), 1) || !same(tally(7).Entropy(), 0) || !same(x, 0) || e != api.OK || y != -1 || f != api.OK {
		t.Error("the examples", x, y)
	}
	if x, e := tally(7).Zipf(); x != 0 || e != api.ErrNone {
		t.Error("Zipf of one word", x, e)
	}
	other := count.New()
	other.Add("b", 1)
	if count.Cosine(tally(1), tally(3)) != 1 || !same(count.Cosine(tally(1), other), 0) {
		t.Error("Cosine")
	}
}
