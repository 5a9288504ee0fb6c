// Package runes is layer 1: the pieces of a text, its forms and its broken bytes.
package runes

import (
	"iter"

	"canticle/api"
)

// lost is the rune that is said of a broken byte, and of a rune that is none.
const lost = 0xFFFD

// At: P1.1.
func At(s string, at int) (api.Piece, api.Errno) {
	if at < 0 || at >= len(s) {
		return api.Piece{}, api.ErrRange
	}
	return read(s, at), api.OK
}

// Before: P1.1.
func Before(s string, at int) (api.Piece, api.Errno) {
	if at < 1 || at > len(s) {
		return api.Piece{}, api.ErrRange
	}
	return before(s, at), api.OK
}

// Pieces: P1.2.
func Pieces(s string) iter.Seq[api.Piece] {
	return func(yield func(api.Piece) bool) {
		for at, r := range s {
			p := api.Piece{At: at, Width: Width(r), Rune: r}
			if r == lost && length(s, at) == 0 {
				p = broken(at)
			}
			if !yield(p) {
				return
			}
		}
	}
}

// Back: P1.2.
func Back(s string) iter.Seq[api.Piece] {
	return func(yield func(api.Piece) bool) {
		for at := len(s); at > 0; {
			p := before(s, at)
			if !yield(p) {
				return
			}
			at = p.At
		}
	}
}

// Nth: P1.2.
func Nth(s string, k int) (api.Piece, bool) {
	if k < 0 {
		return api.Piece{}, false
	}
	for p := range Pieces(s) {
		if k == 0 {
			return p, true
		}
		k--
	}
	return api.Piece{}, false
}

// Count: P1.3.
func Count(s string) (int, int) {
	all, bad := 0, 0
	for p := range Pieces(s) {
		all++
		if p.Broken {
			bad++
		}
	}
	return all, bad
}

// Right: P1.3.
func Right(s string) bool {
	for p := range Pieces(s) {
		if p.Broken {
			return false
		}
	}
	return true
}

// Broken: P1.3.
func Broken(s string) []int {
	var l []int
	for p := range Pieces(s) {
		if p.Broken {
			l = append(l, p.At)
		}
	}
	return l
}

// Parts: P1.3.
func Parts(s string) []api.Part {
	var l []api.Part
	for p := range Pieces(s) {
		end := p.At + p.Width
		if n := len(l); n > 0 && l[n-1].Broken == p.Broken {
			l[n-1].Span.To = end
			continue
		}
		l = append(l, api.Part{Span: api.Span{From: p.At, To: end}, Broken: p.Broken})
	}
	return l
}

// Boundary: P1.4.
func Boundary(s string, at int) bool {
	if at < 0 || at > len(s) {
		return false
	}
	return around(s, at).From == at
}

// Around: P1.4.
func Around(s string, at int) (api.Span, api.Errno) {
	if at < 0 || at > len(s) {
		return api.Span{}, api.ErrRange
	}
	return around(s, at), api.OK
}

// Cut: P1.6.
func Cut(s string, n int) (string, string) {
	if n <= 0 {
		return "", s
	}
	p, ok := Nth(s, n)
	if !ok {
		return s, ""
	}
	return s[:p.At], s[p.At:]
}

// Mend: P1.6.
func Mend(s, with string) string {
	var out []byte
	for p := range Pieces(s) {
		if p.Broken {
			out = append(out, with...)
		} else {
			out = append(out, s[p.At:p.At+p.Width]...)
		}
	}
	return string(out)
}

// Reverse: P1.6.
func Reverse(s string) string {
	out := make([]byte, 0, len(s))
	for p := range Back(s) {
		out = append(out, s[p.At:p.At+p.Width]...)
	}
	return string(out)
}

// Index: P1.7.
func Index(s string, r rune) int {
	for p := range Pieces(s) {
		if p.Rune == r && !p.Broken {
			return p.At
		}
	}
	return -1
}

// Compare: P1.7.
func Compare(a, b string) int {
	at, _ := alike(a, b)
	switch {
	case at == len(a) && at == len(b):
		return 0
	case at == len(a):
		return -1
	case at == len(b):
		return 1
	}
	p, q := read(a, at), read(b, at)
	if p.Broken != q.Broken {
		return sign(q.Broken)
	}
	if p.Broken {
		return sign(a[at] < b[at])
	}
	return sign(p.Rune < q.Rune)
}

// Common: P1.7.
func Common(a, b string) int {
	_, n := alike(a, b)
	return n
}

// alike goes on as long as the pieces of both are the same: what is the same has one width, so that one place serves both.
func alike(a, b string) (at, n int) {
	for at < len(a) && at < len(b) {
		w := read(a, at).Width
		if w != read(b, at).Width || a[at:at+w] != b[at:at+w] {
			break
		}
		at += w
		n++
	}
	return at, n
}

func sign(ahead bool) int {
	if ahead {
		return -1
	}
	return 1
}
