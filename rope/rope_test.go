package rope_test

import (
	"math/bits"
	"slices"
	"strings"
	"testing"
	"time"

	"canticle/api"
	"canticle/place"
	"canticle/rope"
	"canticle/runes"
)

type chance uint64

func (c *chance) less(n int) int {
	*c = *c*6364136223846793005 + 1442695040888963407
	return int(uint64(*c)>>33) % n
}

func (c *chance) of(l ...string) string { return l[c.less(len(l))] }

func (c *chance) text(n int) string {
	s := ""
	for range c.less(n) {
		s += c.of("a", "b", "\u00e9", "\xff", "\xc3", "\xa9", "\xe2", "\x82", "\xac", "\xf0", "\x9f", "\x98", "\x80", "\U0001F600", "\ufffd", "\r", "\n", "\r\n", "\u20ac", "\xed\xa0\x80")
	}
	return s
}

func made(t *testing.T, s string) *rope.Rope {
	t.Helper()
	r, e := rope.New(s)
	if e != api.OK || r == nil {
		t.Fatal(e)
	}
	return r
}

// holds holds all that a rope tells against its text.
func holds(t *testing.T, r *rope.Rope, s string) {
	t.Helper()
	n, bad := runes.Count(s)
	a, b := r.Count()
	if r.Text() != s || r.Len() != len(s) || a != n || b != bad {
		t.Fatalf("%q: %q, %d, %d, %d", s, r.Text(), r.Len(), a, b)
	}
	whole, parts := "", 0
	for p := range r.Parts() {
		if p == "" || len(p) > api.MaxLeaf {
			t.Fatalf("a part of %d bytes", len(p))
		}
		whole += p
		parts++
	}
	if whole != s || r.Depth() > 2*bits.Len(uint(len(s))) || (r.Depth() == 0) != (parts <= 1) {
		t.Fatalf("%q: parts %q, depth %d", s, whole, r.Depth())
	}
	want := slices.Collect(runes.Pieces(s))
	if got := slices.Collect(r.Pieces()); !slices.Equal(got, want) {
		t.Fatalf("Pieces of %q: %v, want %v", s, got, want)
	}
	back := slices.Collect(r.Back())
	slices.Reverse(back)
	if !slices.Equal(back, want) {
		t.Fatalf("Back of %q: %v, want %v", s, back, want)
	}
	m, e := place.New(s)
	if e != api.OK {
		return
	}
	step := max(1, len(s)/8000)
	for at := -1; at <= len(s)+1; at += step {
		p, k, e := r.Place(at)
		q, j, f := m.Byte(at)
		if p != q || k != j || e != f {
			t.Fatalf("Place(%d) of %q: %v, %d, %v, want %v, %d, %v", at, s, p, k, e, q, j, f)
		}
		x, e := r.Piece(at)
		if at < 0 || at >= len(s) {
			if e != api.ErrRange || x != (api.Piece{}) {
				t.Fatalf("Piece(%d) of %q: %v, %v", at, s, x, e)
			}
		} else if y := want[q.Rune]; e != api.OK || x != y {
			t.Fatalf("Piece(%d) of %q: %v, %v, want %v", at, s, x, e, y)
		}
	}
	for k := -1; k <= n+1; k += max(1, n/8000) {
		at, e := r.Rune(k)
		q, f := m.Rune(k)
		if at != q.Byte || e != f {
			t.Fatalf("Rune(%d) of %q: %d, %v, want %d, %v", k, s, at, e, q.Byte, f)
		}
	}
}

// P26.1 to P26.5, P26.7 to P26.9
func TestMade(t *testing.T) {
	c := chance(1)
	for range 400 {
		s := c.text(12)
		r := made(t, s)
		holds(t, r, s)
		for range 12 {
			old, was := r, s
			from := c.less(len(s) + 1)
			to := from + c.less(len(s)-from+1)
			switch c.less(4) {
			case 0:
				u := c.text(4)
				r, _ = r.Insert(from, u)
				s = s[:from] + u + s[from:]
			case 1:
				if c.less(3) == 0 {
					r, _ = r.Delete(from, to)
					s = s[:from] + s[to:]
				}
			case 2:
				u := c.text(9)
				q := made(t, u)
				r, _ = r.Join(q)
				s += u
				holds(t, q, u)
			case 3:
				a, _ := r.Slice(0, from)
				b, _ := r.Slice(from, len(s))
				holds(t, a, s[:from])
				holds(t, b, s[from:])
				x, _ := r.Slice(from, to)
				holds(t, x, s[from:to])
				r, _ = a.Join(b)
				if !r.Same(old) {
					t.Fatalf("%q cut at %d", s, from)
				}
			}
			holds(t, r, s)
			holds(t, old, was)
			if r.Same(old) != (s == was) {
				t.Fatalf("Same of %q, %q", s, was)
			}
			u := c.text(3)
			for _, at := range []int{-1, 0, from, to, len(s), len(s) + 1} {
				want := -1
				if at >= 0 && at <= len(s) {
					if want = strings.Index(s[at:], u); want >= 0 {
						want += at
					}
				}
				if k, ok := r.Index(u, at); ok != (want >= 0) || k != max(want, 0) {
					t.Fatalf("Index(%q, %d) of %q: %d, %v, want %d", u, at, s, k, ok, want)
				}
			}
		}
	}
}

// Long ropes, of many parts, whose forms are cut.
func TestLong(t *testing.T) {
	c := chance(2)
	s := strings.Repeat("a\u00e9\r\n\U0001F600\xff\u20ac", 3000)
	r := made(t, s)
	holds(t, r, s)
	for range 300 {
		from := c.less(len(s) + 1)
		to := min(len(s), from+c.less(3000))
		x, _ := r.Slice(from, to)
		u := s[from:to]
		r, _ = r.Delete(from, to)
		s = s[:from] + s[to:]
		at := c.less(len(s) + 1)
		if c.less(2) == 0 {
			a, _ := r.Slice(0, at)
			b, _ := r.Slice(at, len(s))
			r, _ = a.Join(x)
			r, _ = r.Join(b)
		} else {
			r, _ = r.Insert(at, u)
		}
		s = s[:at] + u + s[at:]
		if r.Depth() > 2*bits.Len(uint(len(s))) {
			t.Fatal("depth", r.Depth())
		}
	}
	holds(t, r, s)
	// Byte by byte, from the front and from the end.
	for _, at := range []func(n int) int{func(n int) int { return n }, func(n int) int { return 0 }, func(n int) int { return n / 2 }} {
		q := made(t, "")
		text := ""
		for k := range 4000 {
			b := "\xf0\x9f\x98\x80"[k%4 : k%4+1]
			n := at(len(text))
			q, _ = q.Insert(n, b)
			text = text[:n] + b + text[n:]
		}
		holds(t, q, text)
		one := made(t, "")
		for k := range 3000 {
			one, _ = one.Join(made(t, text[k:k+1]))
			if one.Depth() > 2*bits.Len(uint(k+1)) {
				t.Fatal("depth", one.Depth())
			}
		}
		holds(t, one, text[:3000])
	}
}

// P26.1, P26.3: limits, and in time.
func TestLimits(t *testing.T) {
	s := strings.Repeat("a\u20ac\xf0\x9f\x98\x80\n\xff\r\nbc", api.MaxRope/14+1)[:api.MaxRope]
	begun := time.Now()
	r := made(t, s)
	if x, e := rope.New(s + "a"); x != nil || e != api.ErrLong {
		t.Error("New", e)
	}
	if x, e := r.Insert(7, "a"); x != nil || e != api.ErrLong {
		t.Error("Insert", e)
	}
	if x, e := r.Join(made(t, "a")); x != nil || e != api.ErrLong {
		t.Error("Join", e)
	}
	if x, e := r.Insert(-1, "a"); x != nil || e != api.ErrRange {
		t.Error("Insert", e)
	}
	if x, e := r.Insert(5, ""); e != api.OK || !x.Same(r) {
		t.Error("Insert of nothing", e)
	}
	less, _ := r.Delete(0, 3)
	if x, e := less.Insert(2, "abc"); e != api.OK || x.Len() != api.MaxRope {
		t.Error("Insert to the limit", e)
	}
	n, bad := runes.Count(s)
	if a, b := r.Count(); a != n || b != bad {
		t.Error("Count", a, b)
	}
	c := chance(3)
	for range 500 {
		at := c.less(len(s))
		p, k, _ := r.Place(at)
		if x, e := r.Rune(p.Rune); x != p.Byte || e != api.OK || p.Byte+k != at {
			t.Fatal(at, p, k, x)
		}
		x, _ := r.Slice(at/2, at)
		y, _ := r.Slice(at, len(s))
		x, _ = x.Join(y)
		if x.Len() != len(s)-at/2 {
			t.Fatal(x.Len())
		}
	}
	if time.Since(begun) > 30*time.Second {
		t.Error("too slow:", time.Since(begun))
	}
}

// P26.3, P26.4: places that are none; and R4.
func TestRange(t *testing.T) {
	r := made(t, "a\u00e9\nb")
	for k, x := range [][2]int{{-1, 2}, {3, 2}, {0, 6}, {6, 6}, {-1 << 63, 1<<63 - 1}, {1<<63 - 1, -1 << 63}} {
		a, e := r.Slice(x[0], x[1])
		b, f := r.Delete(x[0], x[1])
		if a != nil || b != nil || e != api.ErrRange || f != api.ErrRange {
			t.Errorf("%d: %v, %v", k, e, f)
		}
	}
	for _, at := range []int{-1, 6, -1 << 63, 1<<63 - 1} {
		a, e := r.Insert(at, "x")
		_, f := r.Piece(at)
		b, g := r.Rune(at)
		c, d, h := r.Place(at)
		k, ok := r.Index("", at)
		if a != nil || b+d+k != 0 || c != (api.Place{}) || e != api.ErrRange || f != api.ErrRange || g != api.ErrRange || h != api.ErrRange || ok {
			t.Error(at, e, f, g, h)
		}
	}
	if _, e := r.Piece(5); e != api.ErrRange {
		t.Error("Piece at the end", e)
	}
	var none *rope.Rope
	_, a := none.Slice(1, 0)
	_, b := none.Delete(1, 0)
	_, c := none.Insert(-1, "")
	_, d := none.Join(r)
	_, e := r.Join(nil)
	_, f := none.Piece(0)
	_, g := none.Rune(-1)
	_, _, h := none.Place(-1)
	for k, e := range []api.Errno{a, b, c, d, e, f, g, h} {
		if e != api.ErrNil {
			t.Error(k, e)
		}
	}
	x, y := none.Count()
	_, ok := none.Index("", 0)
	if none.Len()+none.Depth()+x+y != 0 || none.Text() != "" || ok || none.Same(r) || r.Same(none) || none.Same(none) {
		t.Error("a nil rope")
	}
	for range none.Parts() {
		t.Error("Parts")
	}
	for range none.Pieces() {
		t.Error("Pieces")
	}
	for range none.Back() {
		t.Error("Back")
	}
	long := made(t, strings.Repeat("ab", 2000))
	for range long.Parts() {
		break
	}
	for range long.Pieces() {
		break
	}
	for range long.Back() {
		break
	}
}

// The examples of the chapter.
func TestExamples(t *testing.T) {
	r := made(t, "a\u00e9\n\U0001F600")
	if p, e := r.Piece(2); p != (api.Piece{At: 1, Width: 2, Rune: 0xE9}) || e != api.OK {
		t.Error("Piece(2)", p, e)
	}
	if at, e := r.Rune(3); at != 4 || e != api.OK {
		t.Error("Rune(3)", at, e)
	}
	if p, k, _ := r.Place(6); p != (api.Place{Byte: 4, Rune: 3, Unit: 3, Line: 1}) || k != 2 {
		t.Error("Place(6)", p, k)
	}
	a, _ := r.Slice(0, 2)
	b, _ := r.Slice(2, 8)
	both, _ := a.Join(b)
	n, bad := a.Count()
	m, worse := b.Count()
	if n != 2 || bad != 1 || m != 3 || worse != 1 || !both.Same(r) {
		t.Error(n, bad, m, worse)
	}
	x, _ := r.Insert(2, "x")
	if n, bad := x.Count(); n != 6 || bad != 2 {
		t.Error("Insert", n, bad)
	}
	for s, want := range map[string]int{"\n": 3, "\x98": 6, "": 0} {
		if k, ok := r.Index(s, 0); k != want || !ok {
			t.Errorf("Index(%q): %d, %v", s, k, ok)
		}
	}
	if k, ok := r.Index("", 8); k != 8 || !ok {
		t.Error("Index at the end", k, ok)
	}
}
