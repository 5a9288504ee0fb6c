package rule

import (
	"slices"
	"strings"

	"canticle/api"
	"canticle/class"
	"canticle/runes"
)

// end is said of the place behind a line's last piece.
const end = 1 << 30

// reader reads a rules' text, line by line.
type reader struct {
	text     string
	at, stop int // where the reader is, and where its line ends
	rules    *Rules
	line     line
}

func bad(e api.Errno, at int) api.Spot { return api.Spot{Err: e, At: at} }

// look is the next piece of the line: its rune, a broken byte as a number below 0, or end.
func (r *reader) look() rune {
	p, e := runes.At(r.text[:r.stop], r.at)
	switch {
	case e != api.OK:
		return end
	case p.Broken:
		return -rune(r.text[r.at])
	}
	return p.Rune
}

// take goes on behind the next piece.
func (r *reader) take() {
	p, _ := runes.At(r.text[:r.stop], r.at)
	r.at += p.Width
}

// word goes on behind a text that must stand here.
func (r *reader) word(text string) api.Spot {
	for _, u := range text {
		if r.look() != u {
			return bad(api.ErrRule, r.at)
		}
		r.take()
	}
	return api.Spot{}
}

// plain tells whether a unit is a plain piece.
func plain(u rune) bool {
	if u < 0 {
		return true
	}
	switch class.Kind(u) {
	case api.KindLetter, api.KindMark, api.KindDigit, api.KindDash, api.KindQuote:
		return class.Lower(u) == u
	}
	return false
}

func name(u rune) bool { return u >= 'A' && u <= 'Z' }

// all reads all lines.
func (r *reader) all() api.Spot {
	for from := 0; from < len(r.text); from = r.stop + 1 {
		r.at, r.stop = from, len(r.text)
		if n := strings.IndexByte(r.text[from:], '\n'); n >= 0 {
			r.stop = from + n
		}
		text := r.text[from:r.stop]
		if text == "" || text[0] == ';' {
			continue
		}
		var wrong api.Spot
		if len(text) > 1 && name(rune(text[0])) && text[1] == ' ' {
			wrong = r.class()
		} else {
			wrong = r.rule()
			// What is wrong with the first byte itself goes ahead of its being one too many.
			if len(r.rules.rules) == api.MaxRules && (wrong.Err == api.OK || wrong.At > from) {
				wrong = bad(api.ErrLong, from)
			}
			r.line.text = text
			r.rules.rules = append(r.rules.rules, r.line)
		}
		if wrong.Err != api.OK {
			return wrong
		}
	}
	return api.Spot{}
}

// class reads a class's line.
func (r *reader) class() api.Spot {
	from, n := r.at, r.look()
	pieces := set{}
	if _, ok := r.rules.classes[n]; ok {
		return bad(api.ErrTwice, from)
	}
	r.take()
	if wrong := r.word(" = "); wrong.Err != api.OK {
		return wrong
	}
	for k := 0; k == 0 || r.at < r.stop; k++ {
		u := r.look()
		if u == end || !plain(u) {
			return bad(api.ErrRule, r.at)
		}
		if k == api.MaxWord {
			return bad(api.ErrLong, r.at)
		}
		pieces[u] = struct{}{}
		r.take()
	}
	r.rules.classes[n] = group{text: r.text[from:r.stop], pieces: pieces}
	return api.Spot{}
}

// rule reads a rule's line, part by part.
func (r *reader) rule() api.Spot {
	r.line = line{}
	for _, part := range []func() api.Spot{r.left, r.body, r.right, r.phones} {
		if wrong := part(); wrong.Err != api.OK {
			return wrong
		}
	}
	return api.Spot{}
}

// left reads what stands ahead of the body, and the bracket.
func (r *reader) left() api.Spot {
	if r.look() == '#' {
		r.take()
		r.line.first = true
	}
	var wrong api.Spot
	if r.line.left, wrong = r.sides(); wrong.Err != api.OK {
		return wrong
	}
	slices.Reverse(r.line.left)
	return r.word("(")
}

// body reads the body, and the bracket behind it.
func (r *reader) body() api.Spot {
	u := r.look()
on:
	if u == end || !plain(u) {
		return bad(api.ErrRule, r.at)
	}
	if len(r.line.body) == api.MaxWord {
		return bad(api.ErrLong, r.at)
	}
	r.line.body = append(r.line.body, u)
	r.take()
	if u = r.look(); u != ')' {
		goto on
	}
	r.take()
	return api.Spot{}
}

// right reads what stands behind the body, and the sign behind that.
func (r *reader) right() api.Spot {
	var wrong api.Spot
	if r.line.right, wrong = r.sides(); wrong.Err != api.OK {
		return wrong
	}
	if r.look() == '#' {
		r.take()
		r.line.last = true
	}
	return r.word(" >")
}

// phones reads what the rule says.
func (r *reader) phones() api.Spot {
	if r.at == r.stop {
		return api.Spot{}
	}
	if wrong := r.word(" "); wrong.Err != api.OK {
		return wrong
	}
	if r.at == r.stop {
		return bad(api.ErrRule, r.at)
	}
	var wrong api.Spot
	r.line.phones, wrong = said(r.text[r.at:r.stop], r.at)
	return wrong
}

// sides reads pieces and names, as long as they stand.
func (r *reader) sides() ([]side, api.Spot) {
	var l []side
	var x side
	u := r.look()
on:
	switch {
	case u == end:
		return l, api.Spot{}
	case name(u):
		c, ok := r.rules.classes[u]
		if !ok {
			return nil, bad(api.ErrClass, r.at)
		}
		x = side{name: u, set: c.pieces}
	case plain(u):
		x = side{unit: u}
	default:
		return l, api.Spot{}
	}
	if len(l) == api.MaxWord {
		return nil, bad(api.ErrLong, r.at)
	}
	l = append(l, x)
	r.take()
	u = r.look()
	goto on
}
