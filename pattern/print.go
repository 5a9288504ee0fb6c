package pattern

import (
	"strconv"

	"canticle/api"
	"canticle/runes"
)

// printer puts a pattern's one form together.
type printer struct {
	out  []byte
	lone []int // where a broken byte by itself, once, ends
}

func print(tree [][]part) string {
	var p printer
	p.tree(tree)
	text := string(p.out)
	// A broken byte may begin a form with what has come to stand behind it; then it is kept from it.
	for k := len(p.lone) - 1; k >= 0; k-- {
		at := p.lone[k]
		if x, e := runes.At(text, at-1); e == api.OK && !x.Broken {
			text = text[:at] + "{1}" + text[at:]
		}
	}
	return text
}

func (p *printer) tree(branches [][]part) {
	for k, b := range branches {
		if k > 0 {
			p.out = append(p.out, '|')
		}
		for _, x := range b {
			p.part(x)
		}
	}
}

func (p *printer) part(x part) {
	switch x.what {
	case isPiece:
		p.piece(x.piece, "()[]{}*+?|.^$\\")
	case isAny:
		p.out = append(p.out, '.')
	case isKind:
		p.out = append(p.out, '\\', byte(x.kind))
	case isClass:
		p.class(x)
	case isBegin:
		p.out = append(p.out, '^')
	case isEnd:
		p.out = append(p.out, '$')
	case isEdge:
		p.out = append(p.out, "\\b"...)
	case isGroup:
		p.out = append(p.out, '(')
		p.tree(x.branches)
		p.out = append(p.out, ')')
	}
	often := often(x.least, x.most)
	p.out = append(p.out, often...)
	if x.what == isPiece && x.piece < 0 && often == "" {
		p.lone = append(p.lone, len(p.out))
	}
}

// piece prints a piece, with a backslash ahead of it, if it is one of signs.
func (p *printer) piece(u rune, signs string) {
	if u < 0 {
		p.out = append(p.out, byte(-u))
		return
	}
	if runes.Index(signs, u) >= 0 {
		p.out = append(p.out, '\\')
	}
	p.out = append(p.out, runes.Encode(u)...)
}

func (p *printer) class(x part) {
	p.out = append(p.out, '[')
	if x.not {
		p.out = append(p.out, '^')
	}
	for _, i := range x.items {
		if i.kind != 0 {
			p.out = append(p.out, '\\', byte(i.kind))
			continue
		}
		p.piece(i.from, "][\\^-")
		if i.ranged {
			p.out = append(p.out, '-')
			p.piece(i.to, "][\\^-")
		}
	}
	p.out = append(p.out, ']')
}

// often is how it is said how often a part stands.
func often(least, most int) string {
	switch {
	case least == 1 && most == 1:
		return ""
	case least == 0 && most == -1:
		return "*"
	case least == 1 && most == -1:
		return "+"
	case least == 0 && most == 1:
		return "?"
	case most == -1:
		return "{" + strconv.Itoa(least) + ",}"
	case least == most:
		return "{" + strconv.Itoa(least) + "}"
	}
	return "{" + strconv.Itoa(least) + "," + strconv.Itoa(most) + "}"
}
