package place_test

import (
	"slices"
	"strings"
	"testing"
	"unicode/utf16"

	"canticle/api"
	"canticle/place"
)

// song is the text of the chapter's examples.
const song = "a\u00e9\r\n\xff\U0001F600\n"

func texts(yield func(string) bool) {
	bits := []string{"a", "\u00e9", "\xff", "\xc3", "\xa9", "\xe2\x82", "\U0001F600", "\ufffd", "\r", "\n", "\r\n", "\n\r", "\u20ac", "\u2028"}
	x := uint64(3)
	for range 1500 {
		s := ""
		for x = x*6364136223846793005 + 1442695040888963407; len(s) < int(x>>60); x = x*6364136223846793005 + 1442695040888963407 {
			s += bits[(x>>33)%uint64(len(bits))]
		}
		if !yield(s) {
			return
		}
	}
}

// places are those of all boundaries, each reckoned from the text's beginning anew.
func places(s string) []api.Place {
	var l []api.Place
	var at []int
	for i := range s {
		at = append(at, i)
	}
	at = append(at, len(s))
	for k, b := range at {
		head := s[:b]
		p := api.Place{Byte: b, Rune: k, Unit: len(utf16.Encode([]rune(head)))}
		from := 0
		for i := range b {
			if s[i] == '\n' || s[i] == '\r' && (i+1 == len(s) || s[i+1] != '\n') {
				p.Line++
				from = i + 1
			}
		}
		p.Col = len([]rune(s[from:b]))
		l = append(l, p)
	}
	return l
}

func plan(t *testing.T, s string) *place.Map {
	t.Helper()
	m, e := place.New(s)
	if e != api.OK || m == nil {
		t.Fatalf("New(%q): %v", s, e)
	}
	return m
}

// P2.1, P2.2, P2.5, P2.8
func TestAll(t *testing.T) {
	for s := range texts {
		m, want := plan(t, s), places(s)
		if got := slices.Collect(m.Each()); !slices.Equal(got, want) {
			t.Fatalf("Each of %q: %v, want %v", s, got, want)
		}
		if m.Text() != s || m.End() != want[len(want)-1] || m.Lines() != want[len(want)-1].Line+1 {
			t.Fatalf("%q: Text, End, Lines: %q %v %d", s, m.Text(), m.End(), m.Lines())
		}
		for range m.Each() {
			break
		}
	}
	if _, e := place.New(strings.Repeat("a", api.MaxText)); e != api.OK {
		t.Error("at the limit", e)
	}
	if m, e := place.New(strings.Repeat("a", api.MaxText+1)); e != api.ErrLong || m != nil {
		t.Error("behind the limit", e)
	}
}

// P2.2, P2.9
func TestSpan(t *testing.T) {
	for s := range texts {
		m := plan(t, s)
		whole := ""
		for k := range m.Lines() {
			x, n, e := m.Span(k)
			if e != api.OK || strings.ContainsAny(s[x.From:x.To], "\r\n") {
				t.Fatalf("Span(%d) of %q: %v %d %v", k, s, x, n, e)
			}
			end := s[x.To : x.To+n]
			if end != "\n" && end != "\r\n" && (end != "\r" || strings.HasPrefix(s[x.To+n:], "\n")) && (end != "" || k+1 < m.Lines()) {
				t.Fatalf("Span(%d) of %q: %v %d", k, s, x, n)
			}
			p, _, _ := m.Byte(x.From)
			if p.Line != k || p.Col != 0 || p.Byte != x.From {
				t.Fatalf("line %d of %q begins at %v", k, s, p)
			}
			whole += s[x.From:x.To] + end
		}
		if whole != s {
			t.Fatalf("lines of %q: %q", s, whole)
		}
		for _, k := range []int{-1, m.Lines(), 1 << 40, -1 << 63} {
			if x, n, e := m.Span(k); e != api.ErrRange || x != (api.Span{}) || n != 0 {
				t.Fatalf("Span(%d) of %q: %v %d %v", k, s, x, n, e)
			}
		}
	}
}

// P2.3, P2.7
func TestTold(t *testing.T) {
	for s := range texts {
		m, all := plan(t, s), places(s)
		end := all[len(all)-1]
		for at := -2; at <= max(end.Byte, end.Unit)+2; at++ {
			p, k, e := m.Byte(at)
			told(t, s, "Byte", at, p, k, e, all, end.Byte, func(p api.Place) int { return p.Byte })
			p, k, e = m.Unit(at)
			told(t, s, "Unit", at, p, k, e, all, end.Unit, func(p api.Place) int { return p.Unit })
			p, e = m.Rune(at)
			told(t, s, "Rune", at, p, 0, e, all, end.Rune, func(p api.Place) int { return p.Rune })
		}
		for line := -1; line <= end.Line+1; line++ {
			for col := -1; col <= len(all); col++ {
				p, e := m.Line(line, col)
				k := slices.IndexFunc(all, func(q api.Place) bool { return q.Line == line && q.Col == col })
				if k < 0 && (e != api.ErrRange || p != api.Place{}) || k >= 0 && (e != api.OK || p != all[k]) {
					t.Fatalf("Line(%d, %d) of %q: %v %v", line, col, s, p, e)
				}
			}
		}
	}
	m := plan(t, song)
	for _, far := range []int{1<<63 - 1, -1 << 63} {
		_, _, a := m.Byte(far)
		_, b := m.Rune(far)
		_, _, c := m.Unit(far)
		_, d := m.Line(0, far)
		_, e := m.Line(far, 0)
		if a != api.ErrRange || b != api.ErrRange || c != api.ErrRange || d != api.ErrRange || e != api.ErrRange {
			t.Error(far, a, b, c, d, e)
		}
	}
}

func told(t *testing.T, s, way string, at int, p api.Place, more int, e api.Errno, all []api.Place, end int, in func(api.Place) int) {
	t.Helper()
	if at < 0 || at > end {
		if e != api.ErrRange || p != (api.Place{}) || more != 0 {
			t.Fatalf("%s(%d) of %q: %v %d %v", way, at, s, p, more, e)
		}
		return
	}
	var want api.Place
	for _, q := range all {
		if in(q) <= at {
			want = q
		}
	}
	if e != api.OK || p != want || more != at-in(want) {
		t.Fatalf("%s(%d) of %q: %v %d %v, want %v", way, at, s, p, more, e, want)
	}
}

// P2.4, P2.10
func TestMove(t *testing.T) {
	for s := range texts {
		m, all := plan(t, s), places(s)
		end := all[len(all)-1]
		for at := range len(s) + 1 {
			p, _, _ := m.Byte(at)
			for _, n := range []int{0, 1, 2, 3, -1, -2, -5, 9, 1<<63 - 1, -1 << 63} {
				far := max(min(n, 1000), -1000)
				a, e := m.Move(at, api.ByRune, n)
				if e != api.OK || a != all[min(max(p.Rune+far, 0), end.Rune)] {
					t.Fatalf("Move(%d, ByRune, %d) of %q: %v %v", at, n, s, a, e)
				}
				want := all[0]
				for _, q := range all {
					if q.Unit <= max(p.Unit+far, 0) {
						want = q
					}
				}
				if a, e = m.Move(at, api.ByUnit, n); e != api.OK || a != want {
					t.Fatalf("Move(%d, ByUnit, %d) of %q: %v %v", at, n, s, a, e)
				}
				if a, e = m.Move(at, api.ByLine, n); e != api.OK || a != lower(m, all, p, far) {
					t.Fatalf("Move(%d, ByLine, %d) of %q: %v %v", at, n, s, a, e)
				}
			}
		}
	}
	m := plan(t, song)
	for _, way := range []int{0, 4, -1, 1 << 62} {
		if p, e := m.Move(-1, way, 1); e != api.ErrArg || p != (api.Place{}) {
			t.Error("Move by", way, e)
		}
	}
	for _, at := range []int{-1, 12, 1 << 62} {
		if p, e := m.Move(at, api.ByLine, 1); e != api.ErrRange || p != (api.Place{}) {
			t.Error("Move from", at, e)
		}
	}
}

// lower goes through all places for the one that stands n lines below p.
func lower(m *place.Map, all []api.Place, p api.Place, n int) api.Place {
	l := p.Line + n
	if l < 0 {
		return all[0]
	}
	if l >= m.Lines() {
		return all[len(all)-1]
	}
	x, _, _ := m.Span(l)
	var want api.Place
	for _, q := range all {
		if q.Line == l && q.Byte <= x.To && q.Col <= p.Col {
			want = q
		}
	}
	return want
}

// The examples of the chapter.
func TestExamples(t *testing.T) {
	m := plan(t, song)
	if p := m.End(); p != (api.Place{Byte: 11, Rune: 7, Unit: 8, Line: 2, Col: 0}) {
		t.Error("End", p)
	}
	if x, n, _ := m.Span(1); x != (api.Span{From: 5, To: 10}) || n != 1 {
		t.Error("Span(1)", x, n)
	}
	if p, n, _ := m.Byte(8); p != (api.Place{Byte: 6, Rune: 5, Unit: 5, Line: 1, Col: 1}) || n != 2 {
		t.Error("Byte(8)", p, n)
	}
	if p, n, _ := m.Unit(6); p != (api.Place{Byte: 6, Rune: 5, Unit: 5, Line: 1, Col: 1}) || n != 1 {
		t.Error("Unit(6)", p, n)
	}
	if p, e := m.Line(0, 3); e != api.OK || p != (api.Place{Byte: 4, Rune: 3, Unit: 3, Line: 0, Col: 3}) {
		t.Error("Line(0, 3)", p, e)
	}
	if p, _ := m.Move(4, api.ByLine, 1); p != (api.Place{Byte: 10, Rune: 6, Unit: 7, Line: 1, Col: 2}) {
		t.Error("Move(4, ByLine, 1)", p)
	}
	if p, _ := m.Move(1, api.ByLine, 1); p != (api.Place{Byte: 6, Rune: 5, Unit: 5, Line: 1, Col: 1}) {
		t.Error("Move(1, ByLine, 1)", p)
	}
}

// R4
func TestNil(t *testing.T) {
	var m *place.Map
	_, _, a := m.Span(0)
	_, _, b := m.Byte(0)
	_, c := m.Rune(0)
	_, _, d := m.Unit(0)
	_, e := m.Line(0, 0)
	_, f := m.Move(0, 9, 0)
	for _, e := range []api.Errno{a, b, c, d, e, f} {
		if e != api.ErrNil {
			t.Error(e)
		}
	}
	if m.Text() != "" || m.End() != (api.Place{}) || m.Lines() != 0 || len(slices.Collect(m.Each())) != 0 {
		t.Error("a nil map tells something")
	}
}

// P2.6
func TestShift(t *testing.T) {
	for from := range 6 {
		for to := from; to < 6; to++ {
			for at := range 8 {
				for put := range 4 {
					want := at
					if at > from && at < to {
						want = from + put
					} else if at > from {
						want = at + put - (to - from)
					}
					if got, e := place.Shift(at, api.Span{From: from, To: to}, put); got != want || e != api.OK {
						t.Errorf("Shift(%d, %d to %d, %d) = %d, %v", at, from, to, put, got, e)
					}
				}
			}
		}
	}
	const most = 1<<31 - 1
	for _, x := range [][4]int{{1, -1, 2, 0}, {1, 3, 2, 0}, {-1, 0, 0, 0}, {1, 0, 0, -1}, {1, 0, 0, api.MaxText + 1}, {most + 1, 0, 0, 0}, {1, 0, most + 1, 0}, {1, most + 1, most + 1, 0}} {
		if got, e := place.Shift(x[0], api.Span{From: x[1], To: x[2]}, x[3]); got != 0 || e != api.ErrArg {
			t.Errorf("Shift of %v: %d, %v", x, got, e)
		}
	}
	if got, e := place.Shift(most, api.Span{From: 0, To: most}, api.MaxText); got != api.MaxText || e != api.OK {
		t.Error("Shift at the limits", got, e)
	}
}
