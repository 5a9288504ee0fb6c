package runes

import (
	"canticle/api"
)

// Seam: P1.8.
func Seam(a, b string) (api.Span, bool) {
	tail, head := a[max(0, len(a)-3):], b[:min(3, len(b))]
	x := around(tail+head, len(tail))
	if x.From == x.To {
		return api.Span{}, false
	}
	far := len(a) - len(tail)
	return api.Span{From: x.From + far, To: x.To + far}, true
}

// Wants: P1.8.
func Wants(s string) int {
	n := open(s)
	if n == 0 {
		return 0
	}
	return whole(s[len(s)-n]) - n
}

// open is how many bytes the end of s has that is a beginning of a form.
func open(s string) int {
	for n := 1; n <= 3 && n <= len(s); n++ {
		if at := len(s) - n; whole(s[at]) > n && fitting(s, at) == n {
			return n
		}
	}
	return 0
}

// Feed takes a text in by parts.
type Feed struct {
	held [3]byte
	n    int // how many bytes are held
	told int // how many bytes were told, since it was new
}

// NewFeed: P1.9.
func NewFeed() *Feed { return &Feed{} }

// Put: P1.9.
func (f *Feed) Put(s string) []api.Piece {
	if f == nil {
		return nil
	}
	text := f.Held() + s
	n := open(text)
	sure, rest := text[:len(text)-n], text[len(text)-n:]
	l := f.tell(sure)
	f.n = copy(f.held[:], rest)
	return l
}

// End: P1.9.
func (f *Feed) End() []api.Piece {
	if f == nil {
		return nil
	}
	l := f.tell(f.Held())
	*f = Feed{}
	return l
}

// Held: P1.9.
func (f *Feed) Held() string {
	if f == nil {
		return ""
	}
	return string(f.held[:f.n])
}

func (f *Feed) tell(s string) []api.Piece {
	var l []api.Piece
	for p := range Pieces(s) {
		p.At += f.told
		l = append(l, p)
	}
	f.told += len(s)
	return l
}
