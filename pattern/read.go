package pattern

import (
	"canticle/api"
	"canticle/runes"
)

// what is what an atom is.
type what int

const (
	isPiece what = iota // a piece by itself
	isAny               // any piece but a line's end
	isKind              // any piece of a kind
	isClass             // any piece of a class
	isBegin             // the text's beginning
	isEnd               // its end
	isEdge              // an edge of letters, marks, digits
	isGroup             // a pattern in brackets
)

// item is a part of a class: pieces from one to another one, or a kind.
type item struct {
	from, to rune
	ranged   bool
	kind     rune
}

// part is an atom, and how often it stands; most -1: there is no end of it.
type part struct {
	what        what
	piece       rune // a rune, or less than 0: a broken byte
	kind        rune
	not         bool
	items       []item
	group       int
	branches    [][]part
	least, most int
}

// frame is a pattern that is not read to its end yet.
type frame struct {
	branches [][]part
	branch   []part
	group    int
	size     int // of all that stands ahead of it
}

func (f frame) tree() [][]part { return append(f.branches, f.branch) }

// stop is said of the place behind the last piece.
const stop = 1 << 30

// reader reads a pattern's text.
type reader struct {
	text   string
	at     int
	open   []frame
	groups int
	size   int
}

func bad(e api.Errno, at int) api.Spot { return api.Spot{Err: e, At: at} }

// look is the next piece: its rune, a broken byte as a number below 0, or stop.
func (r *reader) look() rune {
	p, e := runes.At(r.text, r.at)
	switch {
	case e != api.OK:
		return stop
	case p.Broken:
		return -rune(r.text[r.at])
	}
	return p.Rune
}

// take is the next piece, too, and goes on behind it.
func (r *reader) take() rune {
	p, e := runes.At(r.text, r.at)
	if e != api.OK {
		return stop
	}
	u := r.look()
	r.at += p.Width
	return u
}

// top is the pattern that is being read.
func (r *reader) top() *frame { return &r.open[len(r.open)-1] }

// pattern reads all of the text.
func (r *reader) pattern() api.Spot {
	var at, ahead int
	var p part
	var wrong api.Spot
next:
	at, ahead = r.at, r.size
	switch r.look() {
	case stop:
		if len(r.open) > 1 {
			return bad(api.ErrPattern, at)
		}
		return api.Spot{}
	case '|':
		r.take()
		f := r.top()
		f.branches, f.branch = append(f.branches, f.branch), nil
		goto next
	case '(':
		r.take()
		if r.groups == api.MaxGroups {
			return bad(api.ErrLong, at)
		}
		r.groups++
		r.open = append(r.open, frame{group: r.groups, size: r.size})
		if r.size++; r.size > api.MaxSize {
			return bad(api.ErrLong, at)
		}
		goto next
	case ')':
		if len(r.open) == 1 {
			return bad(api.ErrPattern, at)
		}
		r.take()
		f := *r.top()
		r.open = r.open[:len(r.open)-1]
		p, ahead = part{what: isGroup, group: f.group, branches: f.tree()}, f.size
		goto often
	}
	if p, wrong = r.atom(); wrong.Err != api.OK {
		return wrong
	}
	if r.size++; r.size > api.MaxSize {
		return bad(api.ErrLong, at)
	}
often:
	at = r.at
	times, wrong := r.often(&p)
	if wrong.Err != api.OK {
		return wrong
	}
	if r.size = ahead + (r.size-ahead)*times; r.size > api.MaxSize {
		return bad(api.ErrLong, at)
	}
	f := r.top()
	f.branch = append(f.branch, p)
	goto next
}

// atom reads an atom that is no group.
func (r *reader) atom() (part, api.Spot) {
	at := r.at
	switch u := r.take(); u {
	case '.':
		return part{what: isAny}, api.Spot{}
	case '^':
		return part{what: isBegin}, api.Spot{}
	case '$':
		return part{what: isEnd}, api.Spot{}
	case '[':
		return r.class()
	case '\\':
		if r.look() == 'b' {
			r.take()
			return part{what: isEdge}, api.Spot{}
		}
		x, wrong := r.escape(at)
		if x.kind != 0 {
			return part{what: isKind, kind: x.kind}, wrong
		}
		return part{what: isPiece, piece: x.from}, wrong
	case '*', '+', '?', '{', '}', ']':
		return part{}, bad(api.ErrPattern, at)
	default:
		return part{what: isPiece, piece: u}, api.Spot{}
	}
}

// escape reads what stands behind a backslash, which stands at at: a kind, or a piece.
func (r *reader) escape(at int) (item, api.Spot) {
	here := r.at
	switch u := r.take(); u {
	case 'a', 'u', 'l', 'v', 'c', 'd', 'm', 's', 'e', 'p', 'x':
		return item{kind: u}, api.Spot{}
	case '(', ')', '[', ']', '{', '}', '*', '+', '?', '|', '.', '^', '$', '\\', '-':
		return item{from: u, to: u}, api.Spot{}
	case ':':
		return r.hex(at)
	}
	return item{}, bad(api.ErrPattern, here)
}

// hex reads the digits of a rune's number, and what ends them.
func (r *reader) hex(at int) (item, api.Spot) {
	number := rune(0)
	for n := 0; ; n++ {
		here := r.at
		u := r.take()
		switch {
		case u >= '0' && u <= '9' && n < 6:
			number = number<<4 | (u - '0')
		case u >= 'a' && u <= 'f' && n < 6:
			number = number<<4 | (u - 'a' + 10)
		case u >= 'A' && u <= 'F' && n < 6:
			number = number<<4 | (u - 'A' + 10)
		case u == ';' && n > 0:
			if runes.Width(number) == 0 {
				return item{}, bad(api.ErrRune, at)
			}
			return item{from: number, to: number}, api.Spot{}
		default:
			return item{}, bad(api.ErrPattern, here)
		}
	}
}

// class reads what stands behind the [ of a class, up to its ].
func (r *reader) class() (part, api.Spot) {
	p := part{what: isClass}
	if r.look() == '^' {
		r.take()
		p.not = true
	}
	for r.look() != ']' || len(p.items) == 0 {
		x, wrong := r.item(true)
		if wrong.Err != api.OK {
			return part{}, wrong
		}
		if x.kind == 0 && r.look() == '-' {
			r.take()
			at := r.at
			y, wrong := r.item(false)
			if wrong.Err != api.OK {
				return part{}, wrong
			}
			x.to, x.ranged = y.to, true
			if x.from < 0 || y.to < x.from {
				return part{}, bad(api.ErrPattern, at)
			}
		}
		p.items = append(p.items, x)
	}
	r.take()
	return p, api.Spot{}
}

// item reads a piece of a class, or, if that may stand there, a kind.
func (r *reader) item(kind bool) (item, api.Spot) {
	at := r.at
	switch u := r.take(); u {
	case '\\':
		here := r.at
		x, wrong := r.escape(at)
		if x.kind != 0 && !kind {
			return item{}, bad(api.ErrPattern, here)
		}
		return x, wrong
	case ']', '[', '^', '-', stop:
		return item{}, bad(api.ErrPattern, at)
	default:
		return item{from: u, to: u}, api.Spot{}
	}
}

// often reads how often an atom stands, and tells how often that counts.
func (r *reader) often(p *part) (int, api.Spot) {
	switch p.least, p.most = 1, 1; r.look() {
	case '*':
		p.least, p.most = 0, -1
	case '+':
		p.most = -1
		r.take()
		return 2, api.Spot{}
	case '?':
		p.least = 0
	case '{':
		r.take()
		return r.times(p)
	default:
		return 1, api.Spot{}
	}
	r.take()
	return 1, api.Spot{}
}

// times reads what stands behind a {, up to its }.
func (r *reader) times(p *part) (int, api.Spot) {
	n, wrong := r.number()
	if wrong.Err != api.OK {
		return 0, wrong
	}
	p.least, p.most = n, n
	if r.look() == ',' {
		r.take()
		if r.look() == '}' {
			r.take()
			p.most = -1
			return n + 1, api.Spot{}
		}
		at := r.at
		if p.most, wrong = r.number(); wrong.Err != api.OK {
			return 0, wrong
		}
		if r.look() == '}' && p.most < n {
			return 0, bad(api.ErrPattern, at)
		}
	}
	if r.look() != '}' {
		return 0, bad(api.ErrPattern, r.at)
	}
	r.take()
	return p.most, api.Spot{}
}

// number reads a number's digits.
func (r *reader) number() (int, api.Spot) {
	at, n := r.at, 0
	for u := r.look(); u >= '0' && u <= '9'; u = r.look() {
		if r.at > at && n == 0 {
			return 0, bad(api.ErrPattern, r.at)
		}
		if n = n*10 + int(u-'0'); n > api.MaxTimes {
			return 0, bad(api.ErrLong, at)
		}
		r.take()
	}
	if r.at == at {
		return 0, bad(api.ErrPattern, at)
	}
	return n, api.Spot{}
}
