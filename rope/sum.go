package rope

import (
	"canticle/api"
	"canticle/runes"
)

// most is how many bytes of a form there are at most on one side of a place within it.
const most = 3

// edge is what stands at an end of a text: at most three bytes.
type edge struct {
	bytes [most]byte
	n     int
}

func (e edge) text() string { return string(e.bytes[:e.n]) }

func edgeOf(s string) edge {
	var e edge
	e.n = copy(e.bytes[:], s)
	return e
}

// head and tail are the edges of a text.
func head(s string) edge { return edgeOf(s[:min(most, len(s))]) }

func tail(s string) edge { return edgeOf(s[max(0, len(s)-most):]) }

// sum is what is told of a text: how many bytes, pieces, broken ones, units and line ends it has; how many pieces stand behind the last line end; its edges.
type sum struct {
	bytes, pieces, broken, units, ends, col int
	head, tail                              edge
}

// sumOf reckons a text's sum.
func sumOf(s string) sum {
	x := sum{bytes: len(s), head: head(s), tail: tail(s)}
	for p := range runes.Pieces(s) {
		x.pieces++
		x.col++
		x.units++
		if p.Broken {
			x.broken++
		}
		if p.Rune > 0xFFFF {
			x.units++
		}
		if p.Rune == '\n' || p.Rune == '\r' && (p.At+1 == len(s) || s[p.At+1] != '\n') {
			x.ends++
			x.col = 0
		}
	}
	return x
}

// with is the sum of both texts together. Where they meet broken bytes may become a form, and two line ends one.
func (x sum) with(y sum) sum {
	if x.bytes == 0 {
		return y
	}
	if y.bytes == 0 {
		return x
	}
	z := sum{
		bytes: x.bytes + y.bytes, pieces: x.pieces + y.pieces, broken: x.broken + y.broken, units: x.units + y.units, ends: x.ends + y.ends,
		col: y.col, head: head(x.head.text() + y.head.text()), tail: tail(x.tail.text() + y.tail.text()),
	}
	width := 0
	if s, ok := runes.Seam(x.tail.text(), y.head.text()); ok {
		width = s.To - s.From
		z.pieces -= width - 1
		z.broken -= width
		z.units -= width - 1
		if width == 4 {
			z.units++
		}
	}
	switch {
	case y.ends == 0:
		z.col += x.col - max(width-1, 0)
	case x.tail.bytes[x.tail.n-1] == '\r' && y.head.bytes[0] == '\n':
		z.ends--
	}
	return z
}

// place is where a text's end is, if nothing stands behind it.
func (x sum) place() api.Place {
	return api.Place{Byte: x.bytes, Rune: x.pieces, Unit: x.units, Line: x.ends, Col: x.col}
}
