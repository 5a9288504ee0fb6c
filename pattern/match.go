package pattern

import (
	"canticle/api"
	"canticle/class"
	"canticle/runes"
)

// later is where the scanner goes back to: a step, a place and a state; or, with a step below 0, what a slot is to hold again.
type later struct {
	step, at, state int
}

// chunk is of how many places the rows of bits are laid together.
const chunk = 64

// machine looks for a pattern in one text.
type machine struct {
	code  *code
	text  string
	whole bool // only a match that ends with the text will do
	slots []int
	stack []later
	been  [][]uint64 // of each place a row of bits, chunk by chunk: where one has been
	row   int        // how many words a row has
	end   int        // where the match ended
	n     int        // how many groups there are
}

func (p *Pattern) machine(s string) *machine {
	m := &machine{code: &p.code, text: s, n: p.groups}
	m.slots = make([]int, 2*p.groups)
	m.row = (p.code.bits[len(p.code.steps)] + 63) / 64
	m.been = make([][]uint64, len(s)/chunk+1)
	return m
}

// find looks for the leftmost match from a place on.
func (m *machine) find(from int) (api.Match, bool) {
	x, _ := runes.Around(m.text, from)
	for k := range m.text[x.To:] {
		if m.run(x.To + k) {
			return m.match(x.To + k), true
		}
	}
	if m.run(len(m.text)) {
		return m.match(len(m.text)), true
	}
	return api.Match{}, false
}

// match is what was found, which began at from.
func (m *machine) match(from int) api.Match {
	x := api.Match{Span: api.Span{From: from, To: m.end}}
	for k := range m.n {
		x.Groups = append(x.Groups, api.Span{From: m.slots[2*k], To: m.slots[2*k+1]})
	}
	return x
}

// run tells whether there is a way from a place on. Where one has been in vain one does not go again.
func (m *machine) run(at int) bool {
	var s *step
	var ok bool
	k, state := 0, 0
	m.stack = m.stack[:0]
	for g := range m.slots {
		m.slots[g] = -1
	}
on:
	s = &m.code.steps[k]
	if s.op != opJump && s.op != opSave && m.mark(k, at, state) {
		goto back
	}
	k++
	switch s.op {
	case opJump:
		k = s.to
	case opSave:
		m.stack = append(m.stack, later{step: -1 - s.slot, at: m.slots[s.slot]})
		m.slots[s.slot] = at
	case opTake:
		width := m.takes(&s.atom, at)
		if width == 0 {
			goto back
		}
		at, state = at+width, 0
	case opHold:
		if !m.holds(s.atom.what, at) {
			goto back
		}
	case opSplit:
		m.stack = append(m.stack, later{s.to, at, state})
	case opStar:
		m.stack = append(m.stack, later{s.to, at, state})
		state++
	case opLoop:
		if state > 0 {
			goto back
		}
		k = s.to
	case opMatch:
		if m.whole && at < len(m.text) {
			goto back
		}
		m.end = at
		return true
	}
	goto on
back:
	if k, at, state, ok = m.back(); ok {
		goto on
	}
	return false
}

// back is where the scanner goes back to; what slots held by then they hold again.
func (m *machine) back() (k, at, state int, ok bool) {
	for n := len(m.stack) - 1; n >= 0; n-- {
		top := m.stack[n]
		m.stack = m.stack[:n]
		if top.step >= 0 {
			return top.step, top.at, top.state, true
		}
		m.slots[-1-top.step] = top.at
	}
	return 0, 0, 0, false
}

// mark tells whether one has been at a step, at a place, in a state; from now on one has.
func (m *machine) mark(k, at, state int) bool {
	if m.been[at/chunk] == nil {
		m.been[at/chunk] = make([]uint64, chunk*m.row)
	}
	bit := m.code.bits[k] + state
	word := &m.been[at/chunk][at%chunk*m.row+bit/64]
	was := *word&(1<<(bit%64)) != 0
	*word |= 1 << (bit % 64)
	return was
}

// forget lets it be as if one had never been at a place.
func (m *machine) forget(at int) {
	if l := m.been[at/chunk]; l != nil {
		clear(l[at%chunk*m.row : at%chunk*m.row+m.row])
	}
}

// takes is how many bytes the piece has that an atom takes at a place; 0, if it takes none.
func (m *machine) takes(p *part, at int) int {
	x, e := runes.At(m.text, at)
	if e != api.OK {
		return 0
	}
	if p.is(x, m.text[at]) {
		return x.Width
	}
	return 0
}

// is tells whether an atom is a piece, which begins with a byte.
func (p *part) is(x api.Piece, first byte) bool {
	u := x.Rune
	if x.Broken {
		u = -rune(first)
	}
	switch p.what {
	case isPiece:
		return u == p.piece
	case isAny:
		return class.Of(x) != api.KindBreak
	case isKind:
		return kind(p.kind, x)
	}
	for _, i := range p.items {
		if i.kind == 0 && u >= i.from && u <= i.to || i.kind != 0 && kind(i.kind, x) {
			return !p.not
		}
	}
	return p.not
}

// kind tells whether a piece is of a kind, by its letter.
func kind(letter rune, x api.Piece) bool {
	k := class.Of(x)
	switch letter {
	case 'a':
		return k == api.KindLetter
	case 'u':
		return k == api.KindLetter && class.Great(x.Rune)
	case 'l':
		return k == api.KindLetter && class.Small(x.Rune)
	case 'v':
		return k == api.KindLetter && class.Vowel(x.Rune)
	case 'c':
		return k == api.KindLetter && !class.Vowel(x.Rune)
	case 'd':
		return k == api.KindDigit
	case 'm':
		return k == api.KindMark
	case 's':
		return k == api.KindBlank
	case 'e':
		return k == api.KindBreak
	case 'p':
		return k == api.KindDash || k == api.KindQuote || k == api.KindPoint
	}
	return k == api.KindBroken
}

// holds tells whether what takes nothing holds at a place.
func (m *machine) holds(w what, at int) bool {
	switch w {
	case isBegin:
		return at == 0
	case isEnd:
		return at == len(m.text)
	}
	ahead, e := runes.Before(m.text, at)
	behind, f := runes.At(m.text, at)
	return (e == api.OK && lettered(ahead)) != (f == api.OK && lettered(behind))
}

func lettered(x api.Piece) bool {
	k := class.Of(x)
	return k == api.KindLetter || k == api.KindMark || k == api.KindDigit
}
