package page_test

import (
	"slices"
	"strconv"
	"strings"
	"testing"
	"time"

	"canticle/api"
	"canticle/cluster"
	"canticle/page"
	"canticle/poem"
)

type chance uint64

func (c *chance) less(n int) int {
	*c = *c*6364136223846793005 + 1442695040888963407
	return int(uint64(*c)>>33) % n
}

func (c *chance) of(l ...string) string { return l[c.less(len(l))] }

func (c *chance) layout() api.Layout {
	return api.Layout{Width: 8 + c.less(4), Height: 4 + c.less(4), Turn: c.less(8), Every: c.less(4)}
}

// columns are those of a row, the spaces at its end left out.
func columns(s string) int {
	all, n := 0, 0
	for c := range cluster.Each(s) {
		all += c.Columns
		if s[c.Span.From:c.Span.To] != " " {
			n = all
		}
	}
	return n
}

// may tells whether rows are a parting that may be, and what it costs.
func may(rows []string, indent int, l api.Layout) (int, bool) {
	whole := strings.Join(rows, "")
	at, cost := 0, 0
	for k, s := range rows {
		room := l.Width - l.Turn
		if k == 0 {
			room = max(l.Width-indent, 1)
		}
		if s == "" || !cluster.Edge(whole, at) || k > 0 && cells(whole[at:])[0] == " " {
			return 0, false
		}
		at += len(s)
		own := cells(s)
		alone := len(own) == 1 || !slices.ContainsFunc(own[1:], func(c string) bool { return c != " " })
		if columns(s) > room && !alone {
			return 0, false
		}
		if k+1 < len(rows) {
			more := max(room-columns(s), 0)
			if cost += more * more; own[len(own)-1] != " " {
				cost += 1000
			}
		}
	}
	return cost, true
}

func cells(s string) []string {
	var l []string
	for c := range cluster.Each(s) {
		l = append(l, s[c.Span.From:c.Span.To])
	}
	return l
}

// partings are all ways to part cells into rows.
func partings(l []string) [][]string {
	if len(l) == 0 {
		return [][]string{nil}
	}
	var out [][]string
	for n := 1; n <= len(l); n++ {
		for _, rest := range partings(l[n:]) {
			out = append(out, append([]string{strings.Join(l[:n], "")}, rest...))
		}
	}
	return out
}

// P30.1, P30.5
func TestTurn(t *testing.T) {
	c := chance(1)
	for range 300 {
		text := ""
		for range c.less(11) {
			text += c.of("a", "b", " ", " ", "\u0301", "\u8a69", "\u00e9", "\xff", "\x00", "c", "\u200b")
		}
		if n := cluster.Count(text); n > 12 || c.less(3) == 0 && n < 5 {
			continue
		}
		l := api.Layout{Width: 8, Height: 4, Turn: 4 + c.less(4)}
		indent := []int{0, 2, 5, 6, 7, 8, 50}[c.less(7)]
		best, found := 0, []string(nil)
		for k, rows := range partings(cells(text)) {
			cost, ok := may(rows, indent, l)
			n, e := page.Cost(rows, indent, l)
			if ok != (e == api.OK) || !ok && e != api.ErrArg || n != cost {
				t.Fatalf("Cost(%q, %d, %v): %d, %v, want %d, %v", rows, indent, l, n, e, cost, ok)
			}
			if ok && (found == nil && (k >= 0) || cost < best || cost == best && better(rows, found)) {
				best, found = cost, rows
			}
		}
		rows, cost, e := page.Turn(text, indent, l)
		if e != api.OK || cost != best || !slices.Equal(rows, found) {
			t.Fatalf("Turn(%q, %d, %v): %q, %d, %v, want %q, %d", text, indent, l, rows, cost, e, found, best)
		}
	}
}

// better tells whether rows have the fewest parts, or the most cells in the first one that differs.
func better(a, b []string) bool {
	if len(a) != len(b) {
		return len(a) < len(b)
	}
	for k := range a {
		if n, m := cluster.Count(a[k]), cluster.Count(b[k]); n != m {
			return n > m
		}
	}
	return false
}

// P30.1: what may not be.
func TestRefused(t *testing.T) {
	good := api.Layout{Width: 8, Height: 4, Turn: 2, Every: 2}
	long := strings.Repeat("a", api.MaxLine)
	p, _ := poem.Read("a")
	for k, x := range []struct {
		l    api.Layout
		want bool
	}{
		{good, true}, {api.Layout{}, false}, {api.Layout{Width: 7, Height: 4}, false}, {api.Layout{Width: 256, Height: 200, Turn: 7, Every: 512}, true}, {api.Layout{Width: 257, Height: 4}, false}, {api.Layout{Width: 8, Height: 3}, false}, {api.Layout{Width: 8, Height: 201}, false}, {api.Layout{Width: 8, Height: 4, Turn: -1}, false}, {api.Layout{Width: 8, Height: 4, Turn: 8}, false}, {api.Layout{Width: 8, Height: 4, Every: -1}, false}, {api.Layout{Width: 8, Height: 4, Every: 513}, false}, {api.Layout{Width: -1 << 63, Height: 1<<63 - 1}, false},
	} {
		rows, n, e := page.Turn("a", 0, x.l)
		m, f := page.Cost([]string{"a"}, 0, x.l)
		b, g := page.Set(p, x.l)
		if x.want != (e == api.OK) || x.want != (f == api.OK) || x.want != (g == api.OK) || !x.want && (e != api.ErrArg || f != api.ErrArg || g != api.ErrArg || len(rows) > 0 || n+m != 0 || b != nil) {
			t.Errorf("%d: %v, %v, %v", k, e, f, g)
		}
	}
	if _, e := page.Set(nil, api.Layout{}); e != api.ErrNil {
		t.Error("Set of nil", e)
	}
	for k, x := range []struct {
		text   string
		indent int
		want   api.Errno
	}{{long, 0, api.OK}, {long + "a", 0, api.ErrArg}, {"a", -1, api.ErrArg}, {"a", 1024, api.OK}, {"a", 1025, api.ErrArg}, {"", 3, api.OK}} {
		rows, n, e := page.Turn(x.text, x.indent, good)
		if e != x.want || e != api.OK && (len(rows) > 0 || n != 0) || strings.Join(rows, "") != x.text && e == api.OK {
			t.Errorf("%d: Turn: %v", k, e)
		}
		if e != api.OK {
			if n, e := page.Cost([]string{x.text}, x.indent, good); n != 0 || e != api.ErrArg {
				t.Errorf("%d: Cost: %v", k, e)
			}
		}
	}
	for k, x := range []struct {
		rows []string
		want int
		e    api.Errno
	}{{[]string{"aa ", "bb cc", " dd"}, 0, api.ErrArg}, {[]string{"aa", " bb"}, 0, api.ErrArg}, {[]string{"aa ", "bb ", "cc dd"}, 52, api.OK}, {nil, 0, api.OK}, {[]string{""}, 0, api.ErrArg}, {[]string{"a", ""}, 0, api.ErrArg}, {[]string{"e", "\u0301"}, 0, api.ErrArg}, {[]string{"\r", "\n"}, 0, api.ErrArg}, {[]string{"abcdefghi"}, 0, api.ErrArg}, {[]string{"\xc3", "\xa9"}, 0, api.ErrArg}, {[]string{"a", "bcdefg"}, 1049, api.OK}, {[]string{"a", "bcdefgh"}, 0, api.ErrArg}} {
		if n, e := page.Cost(x.rows, 0, good); n != x.want || e != x.e {
			t.Errorf("%d: Cost(%q): %d, %v", k, x.rows, n, e)
		}
	}
}

// height is how many rows a page has, and its cost, if another one stands behind it.
func height(rows []api.Row) int {
	n := len(rows)
	for k := 1; k < len(rows); k++ {
		if rows[k].Stanza != rows[k-1].Stanza {
			n++
		}
	}
	return n
}

// cuts tries all ways to cut rows into pages.
func cuts(p *poem.Poem, all []api.Row, at int, l api.Layout, best *[]int, cost *int, now []int, sum int) {
	if at == len(all) {
		sizes := func(ends []int) []int {
			var s []int
			from := 0
			for _, to := range ends {
				s = append(s, -height(all[from:to]))
				from = to
			}
			return s
		}
		if *cost < 0 || sum < *cost || sum == *cost && (len(now) < len(*best) || len(now) == len(*best) && slices.Compare(sizes(now), sizes(*best)) < 0) {
			*best, *cost = slices.Clone(now), sum
		}
		return
	}
	for to := at + 1; to <= len(all) && height(all[at:to]) <= l.Height; to++ {
		more := 0
		if to < len(all) {
			left := l.Height - height(all[at:to])
			more = left * left
			a, b := all[to-1], all[to]
			x, _ := p.Stanza(a.Stanza)
			switch {
			case a.Stanza != b.Stanza:
			case a.Line == b.Line:
				more += 100
			case a.Line == x.From || b.Line == x.To-1:
				more += 50
			default:
				more += 10
			}
		}
		cuts(p, all, to, l, best, cost, append(now, to), sum+more)
	}
}

// P30.2 to P30.7
func TestSet(t *testing.T) {
	c := chance(2)
	for range 800 {
		text := c.of("", "", "# t\n\n")
		for range c.less(8) {
			text += c.of("", "", "  ", "         ")
			for range 1 + c.less(7) {
				text += c.of("a", "bc", " ", "\xff", "\u8a69")
			}
			text += c.of("\n", "\n", "\n\n")
		}
		p, _ := poem.Read(text)
		l := c.layout()
		b, e := page.Set(p, l)
		if e != api.OK {
			t.Fatal(e)
		}
		var all []api.Row
		turned := 0
		for k, v := range p.Each() {
			rows, cost, _ := page.Turn(v.Text, v.Indent, l)
			turned += cost
			for part, s := range rows {
				r := api.Row{Line: k, Stanza: v.Stanza, Part: part, Indent: l.Turn, Text: s}
				if part == 0 {
					r.Indent = v.Indent
					if l.Every > 0 && (k+1)%l.Every == 0 {
						r.Number = k + 1
					}
				}
				all = append(all, r)
			}
		}
		if len(all) > 14 {
			continue
		}
		var best []int
		cost := -1
		cuts(p, all, 0, l, &best, &cost, nil, 0)
		var pages [][]api.Row
		at := 0
		for _, to := range best {
			var rows []api.Row
			for k, r := range all[at:to] {
				if k > 0 && r.Stanza != all[at+k-1].Stanza {
					rows = append(rows, api.Row{Line: -1})
				}
				rows = append(rows, r)
			}
			pages, at = append(pages, rows), to
		}
		if b.Pages() != len(pages) || b.Cost() != cost+turned {
			t.Fatalf("%q by %v: %d pages, cost %d, want %d, %d", text, l, b.Pages(), b.Cost(), len(pages), cost+turned)
		}
		var told []api.Row
		for k, want := range pages {
			got, e := b.Page(k)
			if e != api.OK || !slices.Equal(got, want) {
				t.Fatalf("%q by %v: page %d: %v, want %v", text, l, k, got, want)
			}
			for n, r := range got {
				if r.Line >= 0 && r.Part == 0 {
					if a, b, e := b.Find(r.Line); a != k || b != n || e != api.OK {
						t.Fatalf("Find(%d): %d, %d, %v", r.Line, a, b, e)
					}
				}
			}
			got[0].Text = "x"
		}
		n, last := 0, 0
		for k, r := range b.Rows() {
			if k < last || k > last+1 {
				t.Fatal("Rows", k)
			}
			last, n = k, n+1
			told = append(told, r)
		}
		if want := slices.Concat(pages...); !slices.Equal(told, want) {
			t.Fatalf("Rows of %q: %v", text, told)
		}
		back, e := page.Back(p.Title(), told)
		if e != api.OK || !back.Same(p) {
			t.Fatalf("Back of %q: %v", text, e)
		}
		if got := b.Print(); got != printed(pages, l) {
			t.Fatalf("Print of %q: %q, want %q", text, got, printed(pages, l))
		}
		for _, k := range []int{-1, p.Lines(), 1 << 62, -1 << 63} {
			if a, b, e := b.Find(k); a+b != 0 || e != api.ErrRange {
				t.Fatalf("Find(%d): %v", k, e)
			}
		}
		for _, k := range []int{-1, len(pages), 1<<63 - 1} {
			if rows, e := b.Page(k); len(rows) > 0 || e != api.ErrRange {
				t.Fatalf("Page(%d): %v", k, e)
			}
		}
		for range b.Rows() {
			break
		}
	}
}

func printed(pages [][]api.Row, l api.Layout) string {
	var out []string
	for _, rows := range pages {
		s := ""
		for _, r := range rows {
			if r.Line >= 0 {
				s += strings.Repeat(" ", r.Indent) + strings.TrimRight(r.Text, " ")
			}
			if r.Number > 0 {
				s += strings.Repeat(" ", max(l.Width-r.Indent-columns(r.Text), 0)) + "  " + strconv.Itoa(r.Number)
			}
			s += "\n"
		}
		out = append(out, s)
	}
	return strings.Join(out, "\f")
}

// P30.4
func TestBack(t *testing.T) {
	row := func(line, stanza, part, indent int, text string) api.Row {
		return api.Row{Line: line, Stanza: stanza, Part: part, Indent: indent, Number: 77, Text: text}
	}
	blank := api.Row{Line: -1, Stanza: 9, Part: 9, Indent: -9, Text: "x"}
	good := []api.Row{blank, row(0, 0, 0, 2, "a "), row(0, 0, 1, -7, " b"), blank, row(1, 0, 0, 0, "c"), blank, row(2, 1, 0, 1024-1, "d"), blank}
	p, e := page.Back("t", good)
	want, _ := poem.Make("t", [][]string{{"  a  b", "c"}, {strings.Repeat(" ", 1023) + "d"}})
	if e != api.OK || !p.Same(want) {
		t.Fatal(e)
	}
	for k, x := range []struct {
		title string
		rows  []api.Row
		want  api.Errno
	}{
		{"", nil, api.OK}, {"", []api.Row{blank}, api.OK}, {"", []api.Row{row(1, 0, 0, 0, "a")}, api.ErrRows}, {"", []api.Row{row(0, 1, 0, 0, "a")}, api.ErrRows}, {"", []api.Row{row(0, 0, 1, 0, "a")}, api.ErrRows}, {"", []api.Row{row(-2, 0, 0, 0, "a")}, api.ErrRows}, {"", []api.Row{row(0, 0, 0, -1, "a")}, api.ErrRows}, {"", []api.Row{row(0, 0, 0, 1025, "a")}, api.ErrRows}, {"", []api.Row{row(0, 0, 0, 1024, "a")}, api.ErrVerse}, {"", []api.Row{row(0, 0, 0, 0, " a")}, api.ErrRows}, {"", []api.Row{row(0, 0, 0, 0, "")}, api.ErrVerse}, {"", []api.Row{row(0, 0, 0, 0, ""), row(0, 0, 1, 0, " a")}, api.OK},
		{"", []api.Row{row(0, 0, 0, 0, "a"), row(0, 0, 2, 0, "a")}, api.ErrRows}, {"", []api.Row{row(0, 0, 0, 0, "a"), row(0, 0, 0, 0, "a")}, api.ErrRows}, {"", []api.Row{row(0, 0, 0, 0, "a"), row(0, 1, 1, 0, "a")}, api.ErrRows}, {"", []api.Row{row(0, 0, 0, 0, "a"), row(1, 0, 1, 0, "a")}, api.ErrRows}, {"", []api.Row{row(0, 0, 0, 0, "a"), row(2, 0, 0, 0, "a")}, api.ErrRows}, {"", []api.Row{row(0, 0, 0, 0, "a"), row(1, 2, 0, 0, "a")}, api.ErrRows}, {"", []api.Row{row(0, 0, 0, 0, "a"), row(1, -1, 0, 0, "a")}, api.ErrRows}, {"", []api.Row{row(0, 0, 0, 0, "a"), row(1, 1, 0, 0, "a")}, api.OK},
		{"a\n", nil, api.ErrVerse}, {"a\n", []api.Row{row(1, 0, 0, 0, "a")}, api.ErrRows}, {"a\n", []api.Row{row(0, 0, 0, 0, " a")}, api.ErrRows}, {"", []api.Row{row(0, 0, 0, 0, "a\n")}, api.ErrVerse},
	} {
		p, e := page.Back(x.title, x.rows)
		if e != x.want || (p == nil) != (e != api.OK) {
			t.Errorf("%d: Back: %v, want %v", k, e, x.want)
		}
	}
}

// The examples of the chapter, long ones, and R4.
func TestExamples(t *testing.T) {
	w := api.Layout{Width: 8, Height: 4, Turn: 2, Every: 2}
	for k, x := range []struct {
		text   string
		indent int
		rows   []string
		cost   int
	}{{"one two three", 0, []string{"one two ", "three"}, 1}, {"abcdefghij", 0, []string{"abcdefgh", "ij"}, 1000}, {"", 0, nil, 0}, {"a b", 7, []string{"a ", "b"}, 0}, {"aa bb cc dd", 0, []string{"aa bb cc ", "dd"}, 0}, {"aaa bbb cc", 0, []string{"aaa bbb ", "cc"}, 1}} {
		if rows, cost, e := page.Turn(x.text, x.indent, w); e != api.OK || !slices.Equal(rows, x.rows) || cost != x.cost {
			t.Errorf("%d: %q, %d", k, rows, cost)
		}
	}
	p, _ := poem.Read("a\nb\nc\n\nd\ne\n")
	b, _ := page.Set(p, w)
	if b.Pages() != 2 || b.Cost() != 1 || b.Print() != "a\nb         2\nc\n\fd         4\ne\n" {
		t.Errorf("%d, %d, %q", b.Pages(), b.Cost(), b.Print())
	}
	p, _ = poem.Read("a\nb\nc\nd\ne\n")
	b, _ = page.Set(p, w)
	if rows, _ := b.Page(0); b.Pages() != 2 || len(rows) != 3 || b.Cost() != 11 {
		t.Error(b.Pages(), b.Cost())
	}
	begun := time.Now()
	p, bad := poem.Read(strings.Repeat(strings.Repeat("a b\xcc\x81", 16)+"\n", 512))
	if bad.Err != api.OK {
		t.Fatal(bad)
	}
	b, _ = page.Set(p, api.Layout{Width: 8, Height: 200})
	if back, e := page.Back("", collect(b)); e != api.OK || !back.Same(p) {
		t.Error("a long poem", e)
	}
	if time.Since(begun) > 20*time.Second {
		t.Error("too slow:", time.Since(begun))
	}
	var none *page.Book
	_, e := none.Page(0)
	_, _, f := none.Find(0)
	if e != api.ErrNil || f != api.ErrNil || none.Pages()+none.Cost() != 0 || none.Print() != "" || len(collect(none)) > 0 {
		t.Error("a nil book", e, f)
	}
}

func collect(b *page.Book) []api.Row {
	var l []api.Row
	for _, r := range b.Rows() {
		l = append(l, r)
	}
	return l
}
