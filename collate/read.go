package collate

import (
	"slices"
	"strings"

	"canticle/api"
	"canticle/class"
	"canticle/fold"
)

// mostPieces is how many pieces a spelling has at most.
const mostPieces = 8

// field is a word of a line, and where it stands; what it spells, if it is a spelling.
type field struct {
	text  string
	at    int
	spelt string
}

func bad(e api.Errno, at int) api.Spot { return api.Spot{Err: e, At: at} }

// Read: P22.1.
func Read(text string) (*Order, api.Spot) {
	if len(text) > api.MaxText {
		return nil, bad(api.ErrLong, api.MaxText)
	}
	o := fresh()
	at := 0
lines:
	for at < len(text) {
		line, _, _ := strings.Cut(text[at:], "\n")
		l := fields(line, at)
		stop := at + len(line)
		at = stop + 1
		if len(l) == 0 {
			continue lines
		}
		if len(o.lines) == api.MaxRules {
			return nil, bad(api.ErrLong, l[0].at)
		}
		if wrong := o.line(l, stop); wrong.Err != api.OK {
			return nil, wrong
		}
		o.keep(l)
	}
	for k, u := range o.placed {
		o.units[u] = unit{place: k}
	}
	return o, api.Spot{}
}

// fresh is the order that no lines say.
func fresh() *Order {
	o := &Order{units: map[string]unit{}, skips: map[string]int{}}
	for r := rune('a'); r <= 0x45F; r++ {
		u := string(r)
		if class.Small(r) && len(fold.Split(r)) == 1 && fold.FoldRune(r) == u {
			o.units[u] = unit{}
			o.placed = append(o.placed, u)
		}
	}
	return o
}

// fields are the words of a line, which begins at at.
func fields(line string, at int) []field {
	var l []field
	from := 0
	for k, r := range line + " " {
		if r != ' ' {
			continue
		}
		if k > from {
			l = append(l, field{text: line[from:k], at: at + from})
		}
		from = k + 1
	}
	return l
}

// spelling is what a word spells; false, if it is no spelling.
func spelling(word string) (string, bool) {
	n, row := 0, ""
	for p := range pieces(fold.Apart(word)) {
		if n++; n > mostPieces || !p.lettered() || n == 1 && p.kind != api.KindLetter {
			return "", false
		}
		row += p.small
	}
	return row, n > 0
}

// line takes a line's words; the line ends at stop.
func (o *Order) line(l []field, stop int) api.Spot {
	few, many := 0, 0
	switch l[0].text {
	case "put":
		few, many = 4, 4
	case "as":
		few, many = 3, 6
	case "skip":
		few, many = 2, 2
	default:
		return bad(api.ErrOrder, l[0].at)
	}
	put := l[0].text == "put"
	for k, w := range l {
		if k == many || put && k == 2 && w.text != "after" {
			return bad(api.ErrOrder, w.at)
		}
	}
	if len(l) < few {
		return bad(api.ErrOrder, stop)
	}
	for k := 1; k < len(l); k++ {
		if put && k == 2 {
			continue
		}
		var ok bool
		if l[k].spelt, ok = spelling(l[k].text); !ok {
			return bad(api.ErrUnit, l[k].at)
		}
	}
	if l[0].text == "skip" {
		return o.skip(l[1])
	}
	if _, is := o.units[l[1].spelt]; is {
		return bad(api.ErrUnitIs, l[1].at)
	}
	if put {
		return o.put(l[1], l[3])
	}
	return o.as(l[1], l[2:])
}

// skip passes a word over.
func (o *Order) skip(w field) api.Spot {
	key := fold.Fold(w.text)
	if _, is := o.skips[key]; is {
		return bad(api.ErrUnitIs, w.at)
	}
	o.skips[key] = len(o.skips)
	return api.Spot{}
}

// put gives a unit a place right behind another one.
func (o *Order) put(u, v field) api.Spot {
	k := slices.Index(o.placed, v.spelt)
	if k < 0 {
		return bad(api.ErrUnitNot, v.at)
	}
	o.placed = slices.Insert(o.placed, k+1, u.spelt)
	o.units[u.spelt] = unit{}
	return api.Spot{}
}

// as lets a unit stand for others.
func (o *Order) as(u field, l []field) api.Spot {
	var stands []string
	for _, v := range l {
		if !slices.Contains(o.placed, v.spelt) {
			return bad(api.ErrUnitNot, v.at)
		}
		stands = append(stands, v.spelt)
	}
	o.units[u.spelt] = unit{stands: stands}
	return api.Spot{}
}

// keep keeps a line as it is printed.
func (o *Order) keep(l []field) {
	var words []string
	for k, w := range l {
		if k == 0 || w.spelt == "" {
			words = append(words, w.text)
		} else {
			words = append(words, fold.Together(w.spelt))
		}
	}
	o.lines = append(o.lines, words)
}
