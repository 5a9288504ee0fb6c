package class

import (
	"iter"

	"canticle/api"
	"canticle/runes"
)

// LowerText is a text in small letters.
func LowerText(s string) string {
	return turn(s, func(r rune, led, followed bool) string {
		return string(lower(r, led, followed))
	})
}

// UpperText is a text in great letters.
func UpperText(s string) string {
	return turn(s, func(r rune, led, followed bool) string {
		if r == 0xDF {
			return "SS"
		}
		return string(Upper(r))
	})
}

// HeadText is a text whose words begin with great letters.
func HeadText(s string) string {
	return turn(s, func(r rune, led, followed bool) string {
		if led {
			return string(lower(r, led, followed))
		}
		return string(Upper(r))
	})
}

// lower is how a letter stands in small letters: a sigma at a word's end has a form of its own.
func lower(r rune, led, followed bool) rune {
	if r == 0x3A3 && led && !followed {
		return 0x3C2
	}
	return Lower(r)
}

// turn puts something else in the place of each letter of a text; all other pieces stay.
func turn(s string, to func(r rune, led, followed bool) string) string {
	out := make([]byte, 0, len(s))
	led, from := false, 0
	for at, r := range s {
		if Kind(r) != api.KindLetter {
			led = led && Kind(r) == api.KindMark
			continue
		}
		out = append(out, s[from:at]...)
		from = at + runes.Width(r)
		followed := r == 0x3A3 && ahead(s[from:])
		out = append(out, to(r, led, followed)...)
		led = true
	}
	out = append(out, s[from:]...)
	return string(out)
}

// ahead tells whether the first piece of a text that is no mark is a letter.
func ahead(s string) bool {
	for _, r := range s {
		if k := Kind(r); k != api.KindMark {
			return k == api.KindLetter
		}
	}
	return false
}

// Case is how a text's letters are written.
func Case(s string) api.Case {
	n, great, head := 0, 0, false
	for _, r := range Letters(s) {
		if Great(r) {
			great++
			head = head || n == 0
		}
		n++
	}
	switch {
	case n == 0:
		return api.CaseNone
	case great == 0:
		return api.CaseSmall
	case great == n:
		return api.CaseGreat
	case great == 1 && head:
		return api.CaseHead
	}
	return api.CaseMixed
}

// Runs goes over the longest rows of pieces of one kind.
func Runs(s string) iter.Seq[api.KindRun] {
	return func(yield func(api.KindRun) bool) {
		var run api.KindRun
		for p := range runes.Pieces(s) {
			if k := Of(p); k != run.Kind {
				if run.To > run.From && !yield(run) {
					return
				}
				run = api.KindRun{Span: api.Span{From: p.At}, Kind: k}
			}
			run.To = p.At + p.Width
		}
		if run.To > run.From {
			yield(run)
		}
	}
}

// Letters goes over a text's letters, with their places.
func Letters(s string) iter.Seq2[int, rune] {
	return func(yield func(int, rune) bool) {
		for at, r := range s {
			if letter(r) && !yield(at, r) {
				return
			}
		}
	}
}
