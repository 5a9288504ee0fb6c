package cluster_test

import (
	"slices"
	"strings"
	"testing"

	"canticle/api"
	"canticle/class"
	"canticle/cluster"
	"canticle/runes"
)

const (
	mark   = "\u0301"
	joiner = "\u200d"
	sign   = "\U0001F469"
	wide   = "\u8a69"
)

func texts(yield func(string) bool) {
	bits := []string{"a", "b", " ", mark, mark, joiner, joiner, sign, sign, wide, "\xff", "\xf0\x9f", "\x91", "\ufffd", "\r", "\n", "\r\n", "\x00", "\u200b", "=", "7", "\u00e9", "\ufeff"}
	x := uint64(9)
	for range 5000 {
		s := ""
		for x = x*6364136223846793005 + 1442695040888963407; len(s) < int(x>>59); x = x*6364136223846793005 + 1442695040888963407 {
			s += bits[(x>>33)%uint64(len(bits))]
		}
		if !yield(s) {
			return
		}
	}
}

func width(r rune) int {
	for _, x := range [][2]rune{{0x1100, 0x115F}, {0x2E80, 0x303E}, {0x3041, 0x4DBF}, {0x4E00, 0xA4CF}, {0xAC00, 0xD7A3}, {0xF900, 0xFAFF}, {0xFE30, 0xFE6F}, {0xFF00, 0xFF60}, {0xFFE0, 0xFFE6}, {0x1F300, 0x1F64F}, {0x1F900, 0x1F9FF}, {0x20000, 0x3FFFD}} {
		if r >= x[0] && r <= x[1] {
			return 2
		}
	}
	return 1
}

// cells goes by the chapter's three rules, piece by piece.
func cells(s string) []api.Cell {
	var l []api.Cell
	p := slices.Collect(runes.Pieces(s))
	for i := 0; i < len(p); {
		k := i + 1
		kind := class.Of(p[i])
		switch {
		case p[i].Rune == '\r' && k < len(p) && p[k].Rune == '\n':
			k++
		case kind == api.KindBroken || kind == api.KindBreak || kind == api.KindControl:
		default:
			for k < len(p) && !p[k].Broken && (class.Of(p[k]) == api.KindMark || p[k].Rune == 0x200D || kind == api.KindSign && class.Of(p[k]) == api.KindSign && p[k-1].Rune == 0x200D) {
				k++
			}
		}
		c := api.Cell{Span: api.Span{From: p[i].At, To: p[k-1].At + p[k-1].Width}}
		for _, q := range p[i:k] {
			n := width(q.Rune)
			switch class.Of(q) {
			case api.KindMark, api.KindBreak, api.KindControl:
				n = 0
			case api.KindBroken:
				n = 1
			}
			c.Columns = max(c.Columns, n)
		}
		l = append(l, c)
		i = k
	}
	return l
}

// P5.1, P5.6, P5.7
func TestEach(t *testing.T) {
	for s := range texts {
		want := cells(s)
		if got := slices.Collect(cluster.Each(s)); !slices.Equal(got, want) {
			t.Fatalf("Each(%q) = %v, want %v", s, got, want)
		}
		back := slices.Collect(cluster.Back(s))
		turned := ""
		for _, c := range back {
			turned += s[c.Span.From:c.Span.To]
		}
		slices.Reverse(back)
		if !slices.Equal(back, want) {
			t.Fatalf("Back(%q) = %v, want %v", s, back, want)
		}
		if got := cluster.Reverse(s); got != turned {
			t.Fatalf("Reverse(%q) = %q", s, got)
		}
		if n := cluster.Count(s); n != len(want) {
			t.Fatalf("Count(%q) = %d", s, n)
		}
		for _, c := range want {
			x := s[c.Span.From:c.Span.To]
			if cluster.Count(x) != 1 || cluster.Columns(x) != c.Columns {
				t.Fatalf("the cluster %q of %q alone", x, s)
			}
		}
	}
	n := 0
	for range cluster.Each("abc") {
		n++
		break
	}
	for range cluster.Back("abc") {
		n++
		break
	}
	if n != 2 {
		t.Error("left early:", n)
	}
}

// P5.2
func TestAt(t *testing.T) {
	for s := range texts {
		want := cells(s)
		for at := -2; at <= len(s)+2; at++ {
			k := slices.IndexFunc(want, func(c api.Cell) bool { return at >= c.Span.From && at < c.Span.To })
			c, e := cluster.At(s, at)
			if k < 0 && (e != api.ErrRange || c != api.Cell{}) || k >= 0 && (e != api.OK || c != want[k]) {
				t.Fatalf("At(%q, %d) = %v, %v", s, at, c, e)
			}
			edge := at == len(s) || k >= 0 && want[k].Span.From == at
			if cluster.Edge(s, at) != edge {
				t.Fatalf("Edge(%q, %d) = %v", s, at, !edge)
			}
		}
	}
	for _, at := range []int{-1 << 63, 1<<63 - 1} {
		if _, e := cluster.At("a", at); e != api.ErrRange || cluster.Edge("a", at) {
			t.Error(at, e)
		}
	}
}

// P5.3
func TestColumns(t *testing.T) {
	for s := range texts {
		n := 0
		for _, c := range cells(s) {
			for range c.Columns {
				if got, e := cluster.Under(s, n); e != api.OK || got != c {
					t.Fatalf("Under(%q, %d) = %v, %v, want %v", s, n, got, e, c)
				}
				n++
			}
		}
		if got := cluster.Columns(s); got != n {
			t.Fatalf("Columns(%q) = %d, want %d", s, got, n)
		}
		for _, k := range []int{-1, n, n + 5, -1 << 63, 1<<63 - 1} {
			if c, e := cluster.Under(s, k); e != api.ErrRange || c != (api.Cell{}) {
				t.Fatalf("Under(%q, %d) = %v, %v", s, k, c, e)
			}
		}
	}
	for _, r := range []rune{0x10FF, 0x1100, 0x115F, 0x1160, 0x2E7F, 0x2E80, 0x303E, 0x303F, 0x3040, 0x3041, 0x4DBF, 0x4DC0, 0x4DFF, 0x4E00, 0xA4CF, 0xA4D0, 0xABFF, 0xAC00, 0xD7A3, 0xD7A4, 0xF8FF, 0xF900, 0xFAFF, 0xFB00, 0xFE2F, 0xFE30, 0xFE6F, 0xFE70, 0xFEFE, 0xFF00, 0xFF60, 0xFF61, 0xFFDF, 0xFFE0, 0xFFE6, 0xFFE7, 0x1F2FF, 0x1F300, 0x1F64F, 0x1F650, 0x1F8FF, 0x1F900, 0x1F9FF, 0x1FA00, 0x1FFFF, 0x20000, 0x3FFFD, 0x3FFFE, 0x3000} {
		if got := cluster.Columns(string(r)); got != width(r) {
			t.Errorf("Columns of %x: %d", r, got)
		}
	}
}

// P5.4
func TestCut(t *testing.T) {
	for s := range texts {
		all := cells(s)
		for n := -2; n <= len(s)+1; n++ {
			to, took := 0, 0
			for _, c := range all {
				if took+c.Columns > max(n, 0) {
					break
				}
				to, took = c.Span.To, took+c.Columns
			}
			if a, b, k := cluster.Cut(s, n); a != s[:to] || b != s[to:] || k != took {
				t.Fatalf("Cut(%q, %d) = %q, %q, %d", s, n, a, b, k)
			}
		}
		if a, b, _ := cluster.Cut(s, 1<<63-1); a != s || b != "" {
			t.Fatalf("Cut(%q) by many: %q, %q", s, a, b)
		}
		if a, _, k := cluster.Cut(s, -1<<63); k != 0 || cluster.Columns(a) != 0 {
			t.Fatalf("Cut(%q) by few: %q, %d", s, a, k)
		}
	}
}

// P5.5, P5.8
func TestPad(t *testing.T) {
	for s := range texts {
		for n := range 12 {
			head, _, took := cluster.Cut(s, n)
			left := n - took
			for side, ahead := range map[int]int{api.SideLeft: 0, api.SideRight: left, api.SideMiddle: left / 2} {
				want := strings.Repeat(" ", ahead) + head + strings.Repeat(" ", left-ahead)
				got, e := cluster.Pad(s, n, side)
				if e != api.OK || got != want {
					t.Fatalf("Pad(%q, %d, %d) = %q, %v, want %q", s, n, side, got, e, want)
				}
			}
		}
	}
	for _, x := range []struct{ columns, side int }{{2, 4}, {2, 0}, {2, -1}, {-1, 1}, {-1 << 63, 2}, {1 << 62, 0}} {
		if got, e := cluster.Pad("a", x.columns, x.side); e != api.ErrArg || got != "" {
			t.Errorf("Pad by %v: %q, %v", x, got, e)
		}
	}
	for _, n := range []int{api.MaxText + 1, 1<<63 - 1} {
		if got, e := cluster.Pad("a", n, api.SideLeft); e != api.ErrLong || got != "" {
			t.Errorf("Pad by %d: %v", n, e)
		}
	}
	if got, e := cluster.Pad("a", api.MaxText, api.SideLeft); e != api.OK || len(got) != api.MaxText {
		t.Error("Pad at the limit", e)
	}
}

// The examples of the chapter.
func TestExamples(t *testing.T) {
	cell := func(from, to, columns int) api.Cell {
		return api.Cell{Span: api.Span{From: from, To: to}, Columns: columns}
	}
	for s, want := range map[string][]api.Cell{
		"a" + mark + "b":             {cell(0, 3, 1), cell(3, 4, 1)},
		mark + "a" + mark + mark:     {cell(0, 2, 0), cell(2, 7, 1)},
		"\r\n\n\r":                   {cell(0, 2, 0), cell(2, 3, 0), cell(3, 4, 0)},
		"\xff" + mark + "a":          {cell(0, 1, 1), cell(1, 3, 0), cell(3, 4, 1)},
		sign + joiner + sign + mark:  {cell(0, 13, 2)},
		"a" + joiner + sign:          {cell(0, 4, 1), cell(4, 8, 2)},
		wide + "a":                   {cell(0, 3, 2), cell(3, 4, 1)},
		sign + joiner + "\xff" + "a": {cell(0, 7, 2), cell(7, 8, 1), cell(8, 9, 1)},
	} {
		if got := slices.Collect(cluster.Each(s)); !slices.Equal(got, want) {
			t.Errorf("Each(%q) = %v, want %v", s, got, want)
		}
	}
	if got := cluster.Reverse("a" + mark + "b\r\n"); got != "\r\nba"+mark {
		t.Errorf("Reverse = %q", got)
	}
}

// P5.8, P5.9
func TestFollows(t *testing.T) {
	for s := range texts {
		for _, c := range cells(s) {
			at := c.Span.From
			l := slices.Collect(cluster.Each(s[:at]))
			for d := range cluster.Each(s[at:]) {
				d.Span.From, d.Span.To = d.Span.From+at, d.Span.To+at
				l = append(l, d)
			}
			if !slices.Equal(l, cells(s)) {
				t.Fatalf("%q parted at %d", s, at)
			}
		}
		if runes.Right(s) && !strings.ContainsAny(s, mark+joiner+"\r") && cluster.Count(s) != len([]rune(s)) {
			t.Fatalf("Count(%q) = %d", s, cluster.Count(s))
		}
	}
}

// Long texts are gone through in time.
func TestLong(t *testing.T) {
	s := strings.Repeat(sign+joiner, 1<<15)
	if cluster.Count(s) != 1 || cluster.Columns(s+s) != 2 || cluster.Count(strings.Repeat("a"+mark, 1<<16)) != 1<<16 {
		t.Error("long texts")
	}
}
