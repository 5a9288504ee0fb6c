package runes_test

import (
	"slices"
	"strings"
	"testing"
	"unicode/utf8"

	"canticle/api"
	"canticle/runes"
)

// texts tells many texts, put together of what forms are made of.
func texts(yield func(string) bool) {
	bits := []string{"a", "z", "\u00e9", "\xff", "\xc3", "\xa9", "\xe2", "\x82", "\xac", "\xe2\x82", "\xf0\x9f\x98", "\U0001F600", "\ufffd", "\xed\xa0\x80", "\xc0\x80", "\xf4\x90\x80\x80", "\xe0\x9f\xbf", "\xf0\x8f", "\xbf", "\xef\xbf", "\r\n", "\x00", "\u0301", "\xf4\x8f\xbf\xbf", "\xe0\xa0", "\xef"}
	x := uint64(7)
	for range 3000 {
		s := ""
		for x = x*6364136223846793005 + 1442695040888963407; len(s) < int(x>>60); x = x*6364136223846793005 + 1442695040888963407 {
			s += bits[(x>>33)%uint64(len(bits))]
		}
		if !yield(s) {
			return
		}
	}
}

// pieces is what the library says of a text.
func pieces(s string) []api.Piece {
	var l []api.Piece
	for at := 0; at < len(s); {
		r, n := utf8.DecodeRuneInString(s[at:])
		l = append(l, api.Piece{At: at, Width: n, Rune: r, Broken: r == 0xFFFD && n == 1})
		at += n
	}
	return l
}

func edges(s string) []int {
	l := []int{0}
	for _, p := range pieces(s) {
		l = append(l, p.At+p.Width)
	}
	return l
}

// P1.1
func TestAtBefore(t *testing.T) {
	for s := range texts {
		for at := -2; at <= len(s)+2; at++ {
			p, e := runes.At(s, at)
			if at < 0 || at >= len(s) {
				if e != api.ErrRange || p != (api.Piece{}) {
					t.Fatalf("At(%q, %d) = %v, %v", s, at, p, e)
				}
			} else {
				want := pieces(s[at:])[0]
				want.At = at
				if e != api.OK || p != want {
					t.Fatalf("At(%q, %d) = %v, %v, want %v", s, at, p, e, want)
				}
			}
			p, e = runes.Before(s, at)
			if at < 1 || at > len(s) {
				if e != api.ErrRange || p != (api.Piece{}) {
					t.Fatalf("Before(%q, %d) = %v, %v", s, at, p, e)
				}
				continue
			}
			l := pieces(s[:at])
			if want := l[len(l)-1]; e != api.OK || p != want {
				t.Fatalf("Before(%q, %d) = %v, %v, want %v", s, at, p, e, want)
			}
		}
	}
	for _, at := range []int{-1 << 63, 1<<63 - 1} {
		if _, e := runes.At("a", at); e != api.ErrRange {
			t.Error("At", at, e)
		}
		if _, e := runes.Before("a", at); e != api.ErrRange {
			t.Error("Before", at, e)
		}
	}
}

// P1.2, P1.10
func TestPieces(t *testing.T) {
	for s := range texts {
		want := pieces(s)
		if got := slices.Collect(runes.Pieces(s)); !slices.Equal(got, want) {
			t.Fatalf("Pieces(%q) = %v, want %v", s, got, want)
		}
		back := slices.Collect(runes.Back(s))
		slices.Reverse(back)
		if !slices.Equal(back, want) {
			t.Fatalf("Back(%q) = %v, want %v", s, back, want)
		}
		for k := -1; k <= len(want); k++ {
			p, ok := runes.Nth(s, k)
			if k < 0 || k == len(want) {
				if ok || p != (api.Piece{}) {
					t.Fatalf("Nth(%q, %d) = %v, %v", s, k, p, ok)
				}
			} else if !ok || p != want[k] {
				t.Fatalf("Nth(%q, %d) = %v, %v, want %v", s, k, p, ok, want[k])
			}
		}
	}
}

// R6: an iterator may be left, and gone through again.
func TestLeft(t *testing.T) {
	for _, it := range []func(string) func(func(api.Piece) bool){
		func(s string) func(func(api.Piece) bool) { return runes.Pieces(s) },
		func(s string) func(func(api.Piece) bool) { return runes.Back(s) },
	} {
		seq, n := it("abc"), 0
		for range 2 {
			for range seq {
				n++
				break
			}
		}
		for range seq {
			n++
		}
		if n != 5 {
			t.Error("told", n)
		}
	}
}

// P1.3
func TestCount(t *testing.T) {
	for s := range texts {
		want := pieces(s)
		var bad []int
		for _, p := range want {
			if p.Broken {
				bad = append(bad, p.At)
			}
		}
		if n, k := runes.Count(s); n != len(want) || k != len(bad) {
			t.Fatalf("Count(%q) = %d, %d", s, n, k)
		}
		if runes.Right(s) != utf8.ValidString(s) {
			t.Fatalf("Right(%q)", s)
		}
		if got := runes.Broken(s); !slices.Equal(got, bad) {
			t.Fatalf("Broken(%q) = %v", s, got)
		}
		at := 0
		for i, p := range runes.Parts(s) {
			if p.Span.From != at || p.Span.To <= at || i > 0 && p.Broken == runes.Parts(s)[i-1].Broken {
				t.Fatalf("Parts(%q) = %v", s, runes.Parts(s))
			}
			for _, q := range want {
				if q.At >= p.Span.From && q.At < p.Span.To && q.Broken != p.Broken {
					t.Fatalf("Parts(%q) = %v", s, runes.Parts(s))
				}
			}
			at = p.Span.To
		}
		if at != len(s) {
			t.Fatalf("Parts(%q) = %v", s, runes.Parts(s))
		}
	}
}

// P1.4
func TestBoundary(t *testing.T) {
	for s := range texts {
		l := edges(s)
		for at := -2; at <= len(s)+2; at++ {
			if runes.Boundary(s, at) != slices.Contains(l, at) {
				t.Fatalf("Boundary(%q, %d)", s, at)
			}
			x, e := runes.Around(s, at)
			if at < 0 || at > len(s) {
				if e != api.ErrRange || x != (api.Span{}) {
					t.Fatalf("Around(%q, %d) = %v, %v", s, at, x, e)
				}
				continue
			}
			var want api.Span
			for _, b := range l {
				if b <= at {
					want.From = b
				}
			}
			for _, b := range slices.Backward(l) {
				if b >= at {
					want.To = b
				}
			}
			if e != api.OK || x != want {
				t.Fatalf("Around(%q, %d) = %v, %v, want %v", s, at, x, e, want)
			}
		}
	}
}

// P1.5
func TestForms(t *testing.T) {
	for r := rune(-5); r <= 0x110005; r++ {
		if runes.Encode(r) != string(r) {
			t.Fatalf("Encode(%x) = %x", r, runes.Encode(r))
		}
		if n := max(0, utf8.RuneLen(r)); runes.Width(r) != n {
			t.Fatalf("Width(%x) = %d", r, runes.Width(r))
		}
	}
	for _, r := range []rune{-1 << 31, 1<<31 - 1} {
		if runes.Width(r) != 0 || runes.Encode(r) != "\ufffd" {
			t.Errorf("%x", r)
		}
	}
	for s := range texts {
		l := runes.To(s)
		if !slices.Equal(l, []rune(s)) {
			t.Fatalf("To(%q) = %x", s, l)
		}
		if runes.Of(l) != string(l) {
			t.Fatalf("Of(%x) = %q", l, runes.Of(l))
		}
	}
	if s := runes.Of([]rune{-1, 'a', 0xD800, 0x110000}); s != "\ufffda\ufffd\ufffd" {
		t.Errorf("Of = %q", s)
	}
}

// P1.6
func TestCut(t *testing.T) {
	for s := range texts {
		l := edges(s)
		for n := -2; n <= len(l)+1; n++ {
			k := l[min(max(n, 0), len(l)-1)]
			if a, b := runes.Cut(s, n); a != s[:k] || b != s[k:] {
				t.Fatalf("Cut(%q, %d) = %q, %q", s, n, a, b)
			}
		}
		mended, turned := "", ""
		for _, p := range pieces(s) {
			bytes := s[p.At : p.At+p.Width]
			turned = bytes + turned
			if p.Broken {
				bytes = "<\xff>"
			}
			mended += bytes
		}
		if got := runes.Mend(s, "<\xff>"); got != mended {
			t.Fatalf("Mend(%q) = %q", s, got)
		}
		if !runes.Right(runes.Mend(s, "\ufffd")) {
			t.Fatalf("Mend(%q) is not right", s)
		}
		if got := runes.Reverse(s); got != turned {
			t.Fatalf("Reverse(%q) = %q", s, got)
		}
		if right := runes.Mend(s, ""); utf8.ValidString(right) && runes.Reverse(runes.Reverse(right)) != right {
			t.Fatalf("Reverse of Reverse(%q)", right)
		}
	}
}

// P1.7
func TestAgainst(t *testing.T) {
	for s := range texts {
		for _, r := range []rune{'a', 0xE9, 0xFFFD, 0x1F600, -1, 0xD800, 0x110000, 0} {
			want := -1
			for _, p := range slices.Backward(pieces(s)) {
				if p.Rune == r && !p.Broken {
					want = p.At
				}
			}
			if got := runes.Index(s, r); got != want {
				t.Fatalf("Index(%q, %x) = %d, want %d", s, r, got, want)
			}
		}
	}
	last, older := "", "\xff"
	for s := range texts {
		for _, u := range []string{last, older, last + s, s} {
			against(t, s, u)
			against(t, "a\u00e9"+s, "a\u00e9"+u)
			if runes.Compare("\u00e9b"+s, "\u00e9b"+u) != runes.Compare(s, u) {
				t.Fatalf("Compare(%q, %q) behind a right text", s, u)
			}
		}
		older, last = last, s
	}
}

func against(t *testing.T, a, b string) {
	t.Helper()
	p, q := pieces(a), pieces(b)
	n := 0
	for n < len(p) && n < len(q) && a[p[n].At:p[n].At+p[n].Width] == b[q[n].At:q[n].At+q[n].Width] {
		n++
	}
	if got := runes.Common(a, b); got != n {
		t.Fatalf("Common(%q, %q) = %d, want %d", a, b, got, n)
	}
	rank := func(s string, l []api.Piece) int {
		if n == len(l) {
			return -1
		}
		if l[n].Broken {
			return 0x200000 + int(s[l[n].At])
		}
		return int(l[n].Rune)
	}
	want := rank(a, p) - rank(b, q)
	switch {
	case want < 0:
		want = -1
	case want > 0:
		want = 1
	}
	if got := runes.Compare(a, b); got != want {
		t.Fatalf("Compare(%q, %q) = %d, want %d", a, b, got, want)
	}
}

// P1.8
func TestSeam(t *testing.T) {
	last := "\xe2"
	for s := range texts {
		var want api.Span
		for _, p := range pieces(last + s) {
			if p.At < len(last) && p.At+p.Width > len(last) {
				want = api.Span{From: p.At, To: p.At + p.Width}
			}
		}
		if x, ok := runes.Seam(last, s); x != want || ok != (want != api.Span{}) {
			t.Fatalf("Seam(%q, %q) = %v, %v, want %v", last, s, x, ok, want)
		}
		last = s
	}
}

// lacks finds by trying whether some form begins with b, and how many bytes it has more.
func lacks(b string) int {
	for n := 1; n <= 3; n++ {
		for _, fill := range []string{"\x80\x80\x80", "\x90\x80\x80", "\xa0\x80\x80", "\x9f\xbf\xbf", "\x8f\xbf\xbf", "\xbf\xbf\xbf"} {
			if r, k := utf8.DecodeRuneInString(b + fill[:n]); k == len(b)+n && (r != 0xFFFD || b+fill[:n] == "\ufffd") {
				return n
			}
		}
	}
	return 0
}

// P1.8
func TestWants(t *testing.T) {
	for s := range texts {
		want := 0
		for n := 1; n <= 3 && n <= len(s); n++ {
			if k := lacks(s[len(s)-n:]); k > 0 {
				want = k
			}
		}
		if got := runes.Wants(s); got != want {
			t.Fatalf("Wants(%q) = %d, want %d", s, got, want)
		}
	}
	for a := range 256 {
		for b := range 256 {
			s := string([]byte{byte(a), byte(b)})
			want := max(lacks(s), lacks(s[1:]))
			if got := runes.Wants(s); got != want {
				t.Fatalf("Wants(%x) = %d, want %d", s, got, want)
			}
		}
	}
}

// P1.9, P1.10
func TestFeed(t *testing.T) {
	f := runes.NewFeed()
	for s := range texts {
		for _, step := range []int{1, 2, 3, 5, 99} {
			var got []api.Piece
			for at := 0; at < len(s); at += step {
				part := s[at:min(at+step, len(s))]
				got = append(got, f.Put(part)...)
				all, want := s[:at+len(part)], 0
				for n := 1; n <= 3 && n <= len(all); n++ {
					if lacks(all[len(all)-n:]) > 0 {
						want = n
					}
				}
				if f.Held() != all[len(all)-want:] {
					t.Fatalf("Held behind %q = %q", all, f.Held())
				}
			}
			rest := f.End()
			for _, p := range rest {
				if !p.Broken {
					t.Fatalf("End behind %q: %v", s, rest)
				}
			}
			if got = append(got, rest...); !slices.Equal(got, pieces(s)) {
				t.Fatalf("fed %q by %d: %v", s, step, got)
			}
			if f.Held() != "" {
				t.Fatalf("held behind End: %q", f.Held())
			}
		}
	}
	var none *runes.Feed
	if len(none.Put("a")) != 0 || len(none.End()) != 0 || none.Held() != "" {
		t.Error("a nil Feed")
	}
}

// P1.10: the pieces of a + b.
func TestJoined(t *testing.T) {
	last := "\xe2"
	for s := range texts {
		x, ok := runes.Seam(last, s)
		var want []api.Piece
		if !ok {
			want = pieces(last)
			for _, p := range pieces(s) {
				p.At += len(last)
				want = append(want, p)
			}
		} else {
			for _, p := range pieces(last) {
				if p.At < x.From {
					want = append(want, p)
				} else if !p.Broken {
					t.Fatalf("a form within the Seam of %q and %q", last, s)
				}
			}
			r, _ := utf8.DecodeRuneInString((last + s)[x.From:])
			want = append(want, api.Piece{At: x.From, Width: x.To - x.From, Rune: r})
			for _, p := range pieces(s) {
				if p.At += len(last); p.At >= x.To {
					want = append(want, p)
				} else if !p.Broken {
					t.Fatalf("a form within the Seam of %q and %q", last, s)
				}
			}
		}
		if got := slices.Collect(runes.Pieces(last + s)); !slices.Equal(got, want) {
			t.Fatalf("%q + %q: %v, want %v", last, s, got, want)
		}
		last = s
	}
}

// Long texts are gone through in time.
func TestLong(t *testing.T) {
	s := strings.Repeat("a\u00e9\xff\U0001F600", 1<<14)
	if n, k := runes.Count(s); n != 1<<16 || k != 1<<14 {
		t.Error("Count", n, k)
	}
	if runes.Reverse(runes.Reverse(s)) != s || runes.Common(s, s) != 1<<16 {
		t.Error("Reverse, Common")
	}
}
