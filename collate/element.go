package collate

import (
	"iter"

	"canticle/api"
	"canticle/class"
	"canticle/fold"
	"canticle/runes"
)

// rank is what kind of thing an element is; the end of a title goes ahead of all.
type rank int

const (
	end rank = iota
	gap
	number
	placed
	broken
)

// element is an element of a title. Great is 1, if it is.
type element struct {
	rank   rank
	digits string // of a number, without noughts ahead
	place  int    // of a unit
	marks  string
	great  int
	byte   byte // a broken one
}

// piece is a piece of a text in its apart form, and how it stands there in small letters.
type piece struct {
	kind  api.Kind
	text  string
	small string
	great int
}

// pieces goes over the pieces of a text in its apart form.
func pieces(apart string) iter.Seq[piece] {
	return func(yield func(piece) bool) {
		for x := range runes.Pieces(apart) {
			p := piece{kind: class.Of(x), text: apart[x.At : x.At+x.Width]}
			p.small = p.text
			if p.kind == api.KindLetter && class.Great(x.Rune) {
				p.small, p.great = runes.Encode(class.Lower(x.Rune)), 1
			}
			if !yield(p) {
				return
			}
		}
	}
}

// lettered tells whether a piece may be one of a unit.
func (p piece) lettered() bool { return p.kind == api.KindLetter || p.kind == api.KindMark }

// passed is how many of a title's pieces are passed over at its beginning.
func (o *Order) passed(l []piece) int {
	from := 0
	for from < len(l) && l[from].kind != api.KindLetter {
		from++
	}
	to, row := from, ""
	for to < len(l) && l[to].lettered() {
		row += l[to].text
		to++
	}
	if _, ok := o.skips[fold.Fold(row)]; !ok {
		return 0
	}
	for _, p := range l[to:] {
		if p.kind == api.KindLetter || p.kind == api.KindDigit {
			return to
		}
	}
	return 0
}

// all are a title's elements.
func (o *Order) all(title string) []element {
	var l []element
	for e := range o.elements(title) {
		l = append(l, e)
	}
	return l
}

// elements goes over a title's elements.
func (o *Order) elements(title string) iter.Seq[element] {
	return func(yield func(element) bool) {
		var l []piece
		for p := range pieces(fold.Apart(title)) {
			l = append(l, p)
		}
		apart, begun := false, false
		for at := o.passed(l); at < len(l); {
			kind := l[at].kind
			own, n := o.next(l[at:])
			at += n
			if kind == api.KindBlank || kind == api.KindBreak || kind == api.KindDash {
				apart = begun
				continue
			}
			if apart && len(own) > 0 {
				own = append([]element{{rank: gap}}, own...)
				apart = false
			}
			for _, e := range own {
				if begun = true; !yield(e) {
					return
				}
			}
		}
	}
}

// next are the elements that the first pieces make, and how many pieces these are.
func (o *Order) next(l []piece) ([]element, int) {
	switch l[0].kind {
	case api.KindLetter:
		return o.letters(l)
	case api.KindDigit:
		n := 1
		for n < len(l) && l[n].kind == api.KindDigit {
			n++
		}
		return []element{{rank: number, digits: digits(l[:n])}}, n
	case api.KindBroken:
		return []element{{rank: broken, byte: l[0].text[0]}}, 1
	}
	return nil, 1
}

// digits are those of a number, without the noughts ahead.
func digits(l []piece) string {
	var out []byte
	for _, p := range l {
		if len(out) > 0 || p.text != "0" {
			out = append(out, p.text...)
		}
	}
	return string(out)
}

// letters are the elements that a unit makes, the longest that stands there; or a letter that begins none.
func (o *Order) letters(l []piece) ([]element, int) {
	row, n := "", 0
	units := o.folded(l[0].small)
	var u string
	for k, p := range l[:min(mostPieces, len(l))] {
		if !p.lettered() {
			break
		}
		row += p.small
		if _, ok := o.units[row]; ok {
			u, n = row, k+1
		}
	}
	if n > 0 {
		units = o.places(u)
	}
	n = max(n, 1)
	great := 0
	for _, p := range l[:n] {
		great = max(great, p.great)
	}
	marks := ""
	for n < len(l) && l[n].kind == api.KindMark {
		marks += l[n].text
		n++
	}
	var out []element
	for _, place := range units {
		out = append(out, element{rank: placed, place: place, great: great})
	}
	if k := len(out) - 1; k >= 0 {
		out[k].marks = marks
	}
	return out, n
}

// places are the places that a unit has, or stands for.
func (o *Order) places(u string) []int {
	x := o.units[u]
	if len(x.stands) == 0 {
		return []int{x.place}
	}
	var l []int
	for _, v := range x.stands {
		l = append(l, o.units[v].place)
	}
	return l
}

// folded are the places of the letters as which a small letter stands in the folded form.
func (o *Order) folded(letter string) []int {
	var l []int
	for _, r := range fold.Fold(letter) {
		if x, ok := o.units[string(r)]; ok {
			l = append(l, x.place)
		}
	}
	return l
}
