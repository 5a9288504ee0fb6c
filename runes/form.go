package runes

import (
	"canticle/api"
)

// Width: P1.5.
func Width(r rune) int {
	switch {
	case r < 0, r >= 0xD800 && r <= 0xDFFF, r > 0x10FFFF:
		return 0
	case r < 0x80:
		return 1
	case r < 0x800:
		return 2
	case r < 0x10000:
		return 3
	}
	return 4
}

// Encode: P1.5.
func Encode(r rune) string {
	n := Width(r)
	if n == 0 {
		r, n = lost, 3
	}
	if n == 1 {
		return string([]byte{byte(r)})
	}
	form := make([]byte, n)
	for k := n - 1; k > 0; k-- {
		form[k] = 0x80
		form[k] |= byte(r & 0x3F)
		r >>= 6
	}
	form[0] = 0xF0 << (4 - n)
	form[0] |= byte(r)
	return string(form)
}

// Of: P1.5.
func Of(l []rune) string {
	var out []byte
	for _, r := range l {
		out = append(out, Encode(r)...)
	}
	return string(out)
}

// To: P1.5.
func To(s string) []rune {
	var l []rune
	for _, r := range s {
		l = append(l, r)
	}
	return l
}

// whole is how many bytes a form has whose first byte is b; 0, if none begins so.
func whole(b byte) int {
	switch {
	case b < 0x80:
		return 1
	case b >= 0xC2 && b <= 0xDF:
		return 2
	case b >= 0xE0 && b <= 0xEF:
		return 3
	case b >= 0xF0 && b <= 0xF4:
		return 4
	}
	return 0
}

// fitting is how many bytes of s, from at on, may be those of one form, as far as they go.
func fitting(s string, at int) int {
	n := min(whole(s[at]), len(s)-at)
next:
	for k := 1; k < n; k++ {
		c := s[at+k]
		if c < 0x80 || c > 0xBF {
			return k
		}
		if k > 1 {
			continue next
		}
		switch s[at] {
		case 0xE0:
			if c < 0xA0 {
				return k
			}
		case 0xED:
			if c > 0x9F {
				return k
			}
		case 0xF0:
			if c < 0x90 {
				return k
			}
		case 0xF4:
			if c > 0x8F {
				return k
			}
		}
	}
	return n
}

// length is how many bytes the form has that begins at at; 0, if none does.
func length(s string, at int) int {
	n := whole(s[at])
	if fitting(s, at) < n {
		return 0
	}
	return n
}

func broken(at int) api.Piece {
	return api.Piece{At: at, Width: 1, Rune: lost, Broken: true}
}

// read is the piece that is read from at on.
func read(s string, at int) api.Piece {
	n := length(s, at)
	if n == 0 {
		return broken(at)
	}
	r := rune(s[at])
	if n > 1 {
		r &= 0x7F >> n
	}
	for k := 1; k < n; k++ {
		r <<= 6
		r |= rune(s[at+k] & 0x3F)
	}
	return api.Piece{At: at, Width: n, Rune: r}
}

// before is the piece that ends at at. Forms never overlap, so a form that ends there is a piece, whatever stands ahead.
func before(s string, at int) api.Piece {
	for n := 1; n <= 4 && n <= at; n++ {
		if length(s[:at], at-n) == n {
			return read(s, at-n)
		}
	}
	return broken(at - 1)
}

// around is the span of the form within which at lies; at and at, if it lies within none.
func around(s string, at int) api.Span {
	for n := 1; n <= 3 && n <= at; n++ {
		if w := length(s, at-n); w > n {
			return api.Span{From: at - n, To: at - n + w}
		}
	}
	return api.Span{From: at, To: at}
}
