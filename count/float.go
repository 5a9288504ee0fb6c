package count

import (
	"math"
	"slices"
	"sort"

	"canticle/api"
	"canticle/poem"
	"canticle/runes"
	"canticle/word"
)

// isNaN tells whether a float is NaN: that alone is not equal to itself.
func isNaN(x float64) bool { return x != x }

// plain is a float as it is told: a nought has no sign.
func plain(x float64) float64 {
	if x == 0 {
		return 0
	}
	return x
}

// Log2: P20.4.
func Log2(x float64) float64 {
	switch {
	case isNaN(x) || x < 0:
		return math.NaN()
	case x == 0:
		return math.Inf(-1)
	case x > math.MaxFloat64:
		return x
	}
	m, e := parts(x)
	y, s := float64(e), 1.0
	for range 52 {
		m = m * m
		s = s / 2
		if m >= 2 {
			m = m / 2
			y = y + s
		}
	}
	return plain(y)
}

// parts are the m, from 1 to below 2, and the e with which x is m times 2 to the e; x is finite and above 0.
func parts(x float64) (m float64, e int) {
	const wide, bias = 52, 1023
	bits := math.Float64bits(x)
	e = int(bits>>wide) - bias
	bits &= 1<<wide - 1
	if e == -bias {
		// The least numbers lack the bit that stands ahead of all others.
		for e++; bits>>wide == 0; e-- {
			bits <<= 1
		}
		bits &= 1<<wide - 1
	}
	bits |= bias << wide
	return math.Float64frombits(bits), e
}

// Order: P20.5.
func Order(a, b float64) int {
	switch {
	case isNaN(a) && isNaN(b) || a == b:
		return 0
	case isNaN(a) || a < b:
		return -1
	}
	return 1
}

// mean is the mean of a list that is not empty, a nought as it comes.
func mean(l []float64) float64 {
	sum := 0.0
	for _, x := range l {
		sum = sum + x
	}
	return sum / float64(len(l))
}

// Mean: P20.6.
func Mean(l []float64) float64 {
	if len(l) == 0 {
		return math.NaN()
	}
	return plain(mean(l))
}

// Spread: P20.6.
func Spread(l []float64) float64 {
	if len(l) == 0 {
		return math.NaN()
	}
	m, sum := mean(l), 0.0
	for _, x := range l {
		d := x - m
		sum = sum + float64(d*d)
	}
	return plain(math.Sqrt(sum / float64(len(l))))
}

// Quantile: P20.7.
func Quantile(l []float64, q float64) (float64, api.Errno) {
	switch {
	case !(q >= 0 && q <= 1):
		return 0, api.ErrArg
	case len(l) == 0:
		return 0, api.ErrNone
	case slices.ContainsFunc(l, isNaN):
		return math.NaN(), api.OK
	}
	sorted := slices.Clone(l)
	slices.SortStableFunc(sorted, Order)
	h := q * float64(len(l)-1)
	i := int(h)
	f := h - float64(i)
	a := sorted[i]
	if i+1 == len(l) || f == 0 || sorted[i+1] == a {
		return plain(a), api.OK
	}
	b := sorted[i+1]
	d := b - a
	x := a + float64(f*d)
	if x > b {
		x = b
	}
	return plain(x), api.OK
}

// Bins: P20.8.
func Bins(l, edges []float64) ([]int, api.Errno) {
	for k, x := range edges {
		if isNaN(x) || k > 0 && x <= edges[k-1] {
			return nil, api.ErrArg
		}
	}
	out := make([]int, len(edges)+2)
	for _, x := range l {
		if isNaN(x) {
			out[len(edges)+1]++
			continue
		}
		out[sort.Search(len(edges), func(k int) bool { return x < edges[k] })]++
	}
	return out, api.OK
}

// Slope: P20.9.
func Slope(xs, ys []float64) (float64, api.Errno) {
	if len(xs) != len(ys) {
		return 0, api.ErrArg
	}
	if len(xs) < 2 {
		return 0, api.ErrNone
	}
	p, q := mean(xs), mean(ys)
	up, on := 0.0, 0.0
	for k, x := range xs {
		d := x - p
		e := ys[k] - q
		up = up + float64(d*e)
		on = on + float64(d*d)
	}
	if on == 0 {
		return math.NaN(), api.OK
	}
	return plain(up / on), api.OK
}

// Lengths: P20.10.
func Lengths(p *poem.Poem, way int) ([]float64, api.Errno) {
	if p == nil {
		return nil, api.ErrNil
	}
	var measure func(text string) int
	switch way {
	case api.InBytes:
		measure = func(text string) int { return len(text) }
	case api.InRunes:
		measure = func(text string) int {
			n, _ := runes.Count(text)
			return n
		}
	case api.InWords:
		measure = func(text string) int {
			_, n := word.Count(text)
			return n
		}
	default:
		return nil, api.ErrArg
	}
	var l []float64
	for _, v := range p.Each() {
		l = append(l, float64(measure(v.Text)))
	}
	return l, api.OK
}

// Rate: P20.11.
func (t *Tally) Rate() float64 {
	if t.Len() == 0 {
		return math.NaN()
	}
	return float64(t.Len()) / float64(t.Total())
}

// Entropy: P20.11.
func (t *Tally) Entropy() float64 {
	if t.Len() == 0 {
		return math.NaN()
	}
	sum := 0.0
	for _, n := range t.Each() {
		r := float64(n) / float64(t.total)
		d := 0 - Log2(r)
		sum = sum + float64(r*d)
	}
	return plain(sum)
}

// Zipf: P20.11.
func (t *Tally) Zipf() (float64, api.Errno) {
	if t == nil {
		return 0, api.ErrNil
	}
	if t.Len() < 2 {
		return 0, api.ErrNone
	}
	var xs, ys []float64
	for _, n := range t.Each() {
		xs = append(xs, Log2(float64(len(xs)+1)))
		ys = append(ys, Log2(float64(n)))
	}
	return Slope(xs, ys)
}

// Cosine: P20.12.
func Cosine(t, u *Tally) float64 {
	if t.Len() == 0 || u.Len() == 0 {
		return math.NaN()
	}
	var words []string
	for _, x := range []*Tally{t, u} {
		for w := range x.counts {
			words = append(words, w)
		}
	}
	slices.Sort(words)
	d, a, b := 0.0, 0.0, 0.0
	for _, w := range slices.Compact(words) {
		x, y := float64(t.counts[w]), float64(u.counts[w])
		d = d + float64(x*y)
		a = a + float64(x*x)
		b = b + float64(y*y)
	}
	return plain(d / float64(math.Sqrt(a)*math.Sqrt(b)))
}
