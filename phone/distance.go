package phone

import (
	"canticle/api"
)

// sound is a phone with what it says of the mouth.
type sound struct {
	api.Phone
	traits api.Traits
}

func sounds(l []api.Phone) []sound {
	var out []sound
	for _, p := range l {
		t, _ := Of(p.Rune)
		out = append(out, sound{p, t})
	}
	return out
}

// Apart: P8.5.
func Apart(p, q api.Phone) (int, api.Errno) {
	if !Is(p) || !Is(q) {
		return 0, api.ErrArg
	}
	l := sounds([]api.Phone{p, q})
	return apart(l[0], l[1]), api.OK
}

// Lone: P8.5.
func Lone(p api.Phone) (int, api.Errno) {
	if !Is(p) {
		return 0, api.ErrArg
	}
	return lone(sounds([]api.Phone{p})[0]), api.OK
}

func apart(p, q sound) int {
	a, b := p.traits, q.traits
	if a.Vowel != b.Vowel {
		return 40
	}
	n := 0
	if a.Vowel {
		n = 3*far(a.Height, b.Height) + 2*far(a.Back, b.Back)
	} else {
		n = 2*far(a.Place, b.Place) + 3*far(a.Manner, b.Manner)
	}
	if a.Round != b.Round || a.Voiced != b.Voiced {
		n++
	}
	if p.Long != q.Long {
		n += 2
	}
	if p.Glide != q.Glide {
		n += 3
	}
	return n
}

func lone(p sound) int {
	n := 10
	if p.traits.Vowel {
		n = 14
	}
	if p.Long {
		n += 2
	}
	if p.Glide != 0 {
		n += 3
	}
	return n
}

func far(a, b int) int { return max(a-b, b-a) }

// Distance: P8.6.
func Distance(a, b []api.Phone) (int, api.Errno) {
	if len(a) > api.MaxPhones || len(b) > api.MaxPhones {
		return 0, api.ErrLong
	}
	if check(a) != api.OK || check(b) != api.OK {
		return 0, api.ErrArg
	}
	x, y := sounds(a), sounds(b)
	var first, second [api.MaxPhones + 1]int
	row, below := first[:], second[:]
	costs(nil, y, row, nil)
	for i := len(x) - 1; i >= 0; i-- {
		row, below = below, row
		costs(x[i:], y, row, below)
	}
	return row[0], api.OK
}

// costs reckons a row of the least costs: of x, and of y from each place on. The row below is that of x without its first phone.
func costs(x, y []sound, row, below []int) {
	n := len(y)
	row[n] = 0
	if len(x) > 0 {
		row[n] = below[n] + lone(x[0])
	}
	for j := n - 1; j >= 0; j-- {
		row[j] = row[j+1] + lone(y[j])
		if len(x) > 0 {
			row[j] = min(row[j], below[j]+lone(x[0]), below[j+1]+apart(x[0], y[j]))
		}
	}
}

// Within: P8.6.
func Within(a, b []api.Phone, most int) (int, bool, api.Errno) {
	n, e := Distance(a, b)
	switch {
	case e != api.OK:
		return 0, false, e
	case most < 0:
		return 0, false, api.ErrArg
	case n > most:
		return 0, false, api.OK
	}
	return n, true, api.OK
}

// Align: P8.7.
func Align(a, b []api.Phone) ([]api.Pair, api.Errno) {
	if _, e := Distance(a, b); e != api.OK {
		return nil, e
	}
	x, y := sounds(a), sounds(b)
	wide := len(y) + 1
	all := make([]int, (len(x)+1)*wide)
	costs(nil, y, all[len(x)*wide:], nil)
	for i := len(x) - 1; i >= 0; i-- {
		costs(x[i:], y, all[i*wide:(i+1)*wide], all[(i+1)*wide:])
	}
	var l []api.Pair
	i, j := 0, 0
	for i < len(x) || j < len(y) {
		here := all[i*wide+j]
		switch {
		case i < len(x) && j < len(y) && here == all[(i+1)*wide+j+1]+apart(x[i], y[j]):
			l = append(l, api.Pair{A: i, B: j})
			i, j = i+1, j+1
		case i < len(x) && here == all[(i+1)*wide+j]+lone(x[i]):
			l = append(l, api.Pair{A: i, B: -1})
			i++
		default:
			l = append(l, api.Pair{A: -1, B: j})
			j++
		}
	}
	return l, api.OK
}
