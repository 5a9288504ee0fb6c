package word

import (
	"iter"

	"canticle/api"
	"canticle/class"
	"canticle/runes"
)

// unit is a piece with the marks behind it: where it stands, its first piece's kind and rune, how many pieces it has.
type unit struct {
	span api.Span
	kind api.Kind
	rune rune
	n    int
}

// takes tells whether a mark behind a unit belongs to it.
func (u unit) takes() bool {
	return u.kind != api.KindBroken && u.kind != api.KindBreak && u.kind != api.KindControl
}

// joint tells whether a unit may stand between two letters of a word.
func (u unit) joint() bool {
	switch u.rune {
	case '\'', '-', 0x2019, 0x2010:
		return u.n == 1
	}
	return false
}

// dot tells whether a unit may stand between two digits of a number.
func (u unit) dot() bool {
	switch u.rune {
	case ',', '.':
		return u.n == 1
	}
	return false
}

// units goes over a text's units.
func units(s string) iter.Seq[unit] {
	return func(yield func(unit) bool) {
		var u unit
		for p := range runes.Pieces(s) {
			end, kind := p.At+p.Width, class.Of(p)
			if u.n > 0 && kind == api.KindMark && u.takes() {
				u.span.To = end
				u.n++
				continue
			}
			if u.n > 0 && !yield(u) {
				return
			}
			u = unit{span: api.Span{From: p.At, To: end}, kind: kind, rune: p.Rune, n: 1}
		}
		if u.n > 0 {
			yield(u)
		}
	}
}

// state is where the scanner is.
type state int

const (
	between  state = iota // behind a token, or at the beginning
	inWord                // in a word
	inNumber              // in a number
	inRow                 // in a row of blanks, or of broken bytes
	atReturn              // behind a byte 13
	atJoint               // behind a word and a joint
	atDot                 // behind a number and a dot
)

// scanner takes units, and tells tokens.
type scanner struct {
	state state
	token api.Token
	kind  api.Kind // of the token's first unit
	open  api.Span // a joint or a dot, of which it is not known yet whether it belongs to the token
}

// take takes the next unit, and tells the tokens that have ended with what stands ahead of it.
func (c *scanner) take(u unit) []api.Token {
	var ended []api.Token
	switch c.state {
	case inWord:
		goto letters
	case inNumber:
		goto digits
	case atJoint:
		if u.kind == api.KindLetter {
			c.state = inWord
			goto more
		}
	case atDot:
		if u.kind == api.KindDigit {
			c.state = inNumber
			goto more
		}
	case inRow:
		if u.kind == c.kind {
			goto more
		}
	case atReturn:
		if u.rune == '\n' {
			c.state = between
			goto more
		}
	}
	goto anew
letters:
	if u.kind == api.KindLetter {
		goto more
	}
	if u.joint() {
		c.state, c.open = atJoint, u.span
		return nil
	}
	goto anew
digits:
	if u.kind == api.KindDigit {
		goto more
	}
	if u.dot() {
		c.state, c.open = atDot, u.span
		return nil
	}
anew:
	ended = c.end()
	c.begin(u)
	return ended
more:
	c.token.Span.To = u.span.To
	return nil
}

// begin begins a token with a unit.
func (c *scanner) begin(u unit) {
	c.kind = u.kind
	c.token = api.Token{Kind: api.TokSign, Span: u.span}
	c.state = between
	switch u.kind {
	case api.KindLetter:
		c.token.Kind, c.state = api.TokWord, inWord
	case api.KindDigit:
		c.token.Kind, c.state = api.TokNumber, inNumber
	case api.KindBlank:
		c.token.Kind, c.state = api.TokBlank, inRow
	case api.KindBroken:
		c.token.Kind, c.state = api.TokBroken, inRow
	case api.KindBreak:
		c.token.Kind = api.TokBreak
		if u.rune == '\r' {
			c.state = atReturn
		}
	case api.KindDash, api.KindQuote, api.KindPoint:
		c.token.Kind = api.TokPoint
	}
}

// end tells the tokens that end where the scanner is.
func (c *scanner) end() []api.Token {
	var l []api.Token
	if c.token.Kind != 0 {
		l = append(l, c.token)
	}
	if c.state == atJoint || c.state == atDot {
		l = append(l, api.Token{Kind: api.TokPoint, Span: c.open})
	}
	return l
}
