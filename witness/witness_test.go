package witness_test

import (
	"slices"
	"strings"
	"testing"
	"time"

	"canticle/api"
	"canticle/fold"
	"canticle/witness"
	"canticle/word"
)

type chance uint64

func (c *chance) less(n int) int {
	*c = *c*6364136223846793005 + 1442695040888963407
	return int(uint64(*c)>>33) % n
}

func (c *chance) of(l ...string) string { return l[c.less(len(l))] }

func table(t *testing.T, l ...api.Witness) *witness.Table {
	t.Helper()
	x, e := witness.New(l)
	if e != api.OK || x == nil {
		t.Fatalf("New(%v): %v", l, e)
	}
	return x
}

func (c *chance) witnesses(n int) []api.Witness {
	var l []api.Witness
	for k := range n {
		s := ""
		for range c.less(7) {
			s += c.of("a", "b", "\u00c1", "c", "d", "dd") + c.of(" ", ", ", "\xff", " - ")
		}
		l = append(l, api.Witness{Name: []string{"B", "a", "\u03b1\u03b2", "1", "B2", "\u00e9", "zz", "0"}[k], Text: s})
	}
	return l
}

type column struct {
	slots []api.Slot
	keys  []string
}

// lay tries all alignments, in chapter 8's order, and keeps the first of the least.
func lay(cols []column, keys []string, i, j int) (int, [][2]int) {
	if i == len(cols) && j == len(keys) {
		return 0, nil
	}
	best, row := 1<<30, [][2]int(nil)
	try := func(cost, di, dj int, p [2]int) {
		if n, l := lay(cols, keys, i+di, j+dj); n+cost < best {
			best, row = n+cost, append([][2]int{p}, l...)
		}
	}
	if i < len(cols) && j < len(keys) {
		cost := 3
		if slices.Contains(cols[i].keys, keys[j]) {
			cost = 0
		}
		try(cost, 1, 1, [2]int{i, j})
	}
	if i < len(cols) {
		try(2, 1, 0, [2]int{i, -1})
	}
	if j < len(keys) {
		try(2, 0, 1, [2]int{-1, j})
	}
	return best, row
}

// columns are the table's, as the chapter makes them.
func columns(l []api.Witness) []column {
	var cols []column
	for n, w := range l {
		var slots []api.Slot
		var keys []string
		for s := range word.Words(w.Text) {
			slots = append(slots, api.Slot{Word: w.Text[s.From:s.To], Span: s})
			keys = append(keys, fold.Fold(w.Text[s.From:s.To]))
		}
		_, row := lay(cols, keys, 0, 0)
		var next []column
		for _, p := range row {
			c := column{make([]api.Slot, n), make([]string, n)}
			if p[0] >= 0 {
				c = cols[p[0]]
			}
			s, k := api.Slot{}, ""
			if p[1] >= 0 {
				s, k = slots[p[1]], keys[p[1]]
			}
			c.slots, c.keys = append(c.slots, s), append(c.keys, k)
			next = append(next, c)
		}
		cols = next
	}
	for _, c := range cols {
		next := 1
		for n, k := range c.keys {
			if k == "" {
				continue
			}
			if m := slices.Index(c.keys, k); m < n {
				c.slots[n].Reading = c.slots[m].Reading
				continue
			}
			c.slots[n].Reading = next
			next++
		}
	}
	return cols
}

// tree is a tree: a witness, or two sides.
type tree struct {
	n    int
	a, b *tree
}

func (x *tree) least() int {
	if x.a == nil {
		return x.n
	}
	return min(x.a.least(), x.b.least())
}

func (x *tree) text(name func(int) string) string {
	if x.a == nil {
		return name(x.n)
	}
	a, b := x.a, x.b
	if b.least() < a.least() {
		a, b = b, a
	}
	return "(" + a.text(name) + "," + b.text(name) + ")"
}

// grown are all trees of the witnesses from 1 on, made by hanging each further one to each place of those that there are.
func grown(n int) []*tree {
	all := []*tree{{n: 1}}
	for k := 2; k < n; k++ {
		var next []*tree
		for _, x := range all {
			next = append(next, hang(x, &tree{n: k})...)
		}
		all = next
	}
	return all
}

func hang(x, y *tree) []*tree {
	l := []*tree{{a: x, b: y}}
	if x.a != nil {
		for _, z := range hang(x.a, y) {
			l = append(l, &tree{a: z, b: x.b})
		}
		for _, z := range hang(x.b, y) {
			l = append(l, &tree{a: x.a, b: z})
		}
	}
	return l
}

// costs are the changes of a tree, by the reading that its uppermost joint is given, all givings tried.
func (x *tree) costs(readings []int) [10]int {
	var l [10]int
	for r := range l {
		if x.a == nil {
			if l[r] = 1 << 20; r == readings[x.n] {
				l[r] = 0
			}
			continue
		}
		for _, side := range []*tree{x.a, x.b} {
			best := 1 << 20
			for q, n := range side.costs(readings) {
				if q != r {
					n++
				}
				best = min(best, n)
			}
			l[r] += best
		}
	}
	return l
}

// P29.2 to P29.10
func TestTable(t *testing.T) {
	c := chance(1)
	for round := range 250 {
		l := c.witnesses(1 + c.less(5))
		x := table(t, l...)
		cols := columns(l)
		if x.Witnesses() != len(l) || x.Columns() != len(cols) {
			t.Fatalf("%v: %d, %d, want %d", l, x.Witnesses(), x.Columns(), len(cols))
		}
		var varied []int
		for k, col := range cols {
			var readings []int
			for n, want := range col.slots {
				s, e := x.Slot(k, n)
				if s != want || e != api.OK {
					t.Fatalf("%v: Slot(%d, %d): %v, %v, want %v", l, k, n, s, e, want)
				}
				readings = append(readings, want.Reading)
			}
			if got := x.Readings(k); !slices.Equal(got, readings) {
				t.Fatalf("Readings(%d): %v, want %v", k, got, readings)
			}
			if slices.Max(readings) != slices.Min(readings) {
				varied = append(varied, k)
			}
		}
		if got := x.Varied(); !slices.Equal(got, varied) {
			t.Fatalf("Varied: %v, want %v", got, varied)
		}
		for n := range l {
			var want, got []api.Slot
			for _, col := range cols {
				if col.slots[n] != (api.Slot{}) {
					want = append(want, col.slots[n])
				}
			}
			last := -1
			for k, s := range x.Row(n) {
				if k <= last {
					t.Fatal("Row", n)
				}
				last, got = k, append(got, s)
			}
			if !slices.Equal(got, want) {
				t.Fatalf("Row(%d): %v, want %v", n, got, want)
			}
			for m := range l {
				want := 0
				for _, col := range cols {
					if col.slots[n].Reading != col.slots[m].Reading {
						want++
					}
				}
				if got, e := x.Apart(n, m); got != want || e != api.OK {
					t.Fatalf("Apart(%d, %d): %d, want %d", n, m, got, want)
				}
			}
		}
		if round%5 == 0 || len(l) < 5 {
			hung(t, &c, l, x, cols)
		}
	}
}

// hung asks for trees.
func hung(t *testing.T, c *chance, l []api.Witness, x *witness.Table, cols []column) {
	t.Helper()
	name := func(n int) string { return l[n].Name }
	figure := func(n int) string { return string(rune('0' + n)) }
	var all []*tree
	if len(l) == 1 {
		all = []*tree{{}}
	} else {
		for _, y := range grown(len(l)) {
			all = append(all, &tree{a: &tree{}, b: y})
		}
	}
	slices.SortFunc(all, func(a, b *tree) int { return strings.Compare(a.text(figure), b.text(figure)) })
	var want []string
	for _, y := range all {
		want = append(want, y.text(name))
	}
	if got := slices.Collect(x.Trees()); !slices.Equal(got, want) {
		t.Fatalf("Trees: %q, want %q", got, want)
	}
	best, first, ties := 1<<30, "", 0
	for _, y := range all {
		n := 0
		var root []int
		for _, col := range cols {
			var readings []int
			for _, s := range col.slots {
				readings = append(readings, s.Reading)
			}
			costs := y.costs(readings)
			least := slices.Min(costs[:])
			n += least
			root = append(root, slices.Index(costs[:], least))
		}
		text := y.text(name)
		if got, bad := x.Changes(text); got != n || bad.Err != api.OK {
			t.Fatalf("Changes(%q): %d, %v, want %d", text, got, bad, n)
		}
		if got, bad := x.Root(text); !slices.Equal(got, root) || bad.Err != api.OK {
			t.Fatalf("Root(%q): %v, %v, want %v", text, got, bad, root)
		}
		if n < best {
			best, first, ties = n, text, 0
		}
		if n == best {
			ties++
		}
		// However it is turned, it is the same tree.
		turned := turn(c, y)
		s := turned.plain(name)
		if got, bad := x.Tree(s); got != text || bad.Err != api.OK {
			t.Fatalf("Tree(%q): %q, %v, want %q", s, got, bad, text)
		}
		if got, _ := x.Changes(s); got != n {
			t.Fatalf("Changes(%q): %d, want %d", s, got, n)
		}
	}
	if got, n := x.Best(); got != first || n != best || x.Ties() != ties {
		t.Fatalf("Best: %q, %d, %d, want %q, %d, %d", got, n, x.Ties(), first, best, ties)
	}
}

func (x *tree) plain(name func(int) string) string {
	if x.a == nil {
		return name(x.n)
	}
	return "(" + x.a.plain(name) + "," + x.b.plain(name) + ")"
}

// turn lets another joint be uppermost, and changes sides about, by chance.
func turn(c *chance, x *tree) *tree {
	if x.a == nil {
		return x
	}
	for range c.less(6) {
		if c.less(2) == 0 {
			x = &tree{a: x.b, b: x.a}
		}
		if y := x.a; y.a != nil {
			p, q := y.a, y.b
			if c.less(2) == 0 {
				p, q = q, p
			}
			x = &tree{a: p, b: &tree{a: q, b: x.b}}
		}
	}
	return x
}

// P29.1
func TestNew(t *testing.T) {
	w := func(name, text string) api.Witness { return api.Witness{Name: name, Text: text} }
	eight := []api.Witness{w("A", ""), w("B", ""), w("C", ""), w("D", ""), w("E", ""), w("F", ""), w("G", ""), w("H", "")}
	row := func(from, n int) string {
		s := ""
		for k := range n {
			k += from
			s += string([]byte{'a' + byte(k/676%26), 'a' + byte(k/26%26), 'a' + byte(k%26)}) + " "
		}
		return s
	}
	many := row(0, 256)
	for k, x := range []struct {
		l    []api.Witness
		want api.Errno
	}{
		{nil, api.ErrArg}, {eight, api.OK}, {append(slices.Clone(eight), w("A", "")), api.ErrLong}, {[]api.Witness{w("", "")}, api.ErrArg}, {[]api.Witness{w("A-", "")}, api.ErrArg}, {[]api.Witness{w("A b", "")}, api.ErrArg}, {[]api.Witness{w("e\u0301", "")}, api.ErrArg}, {[]api.Witness{w("\xff", "")}, api.ErrArg}, {[]api.Witness{w("\u00e93", "")}, api.OK}, {[]api.Witness{w("\u4e2d", "")}, api.ErrArg}, {[]api.Witness{w(strings.Repeat("\u00e9", 16), "")}, api.OK}, {[]api.Witness{w(strings.Repeat("a", 17), "")}, api.ErrArg},
		{[]api.Witness{w("A", ""), w("A", "")}, api.ErrArg}, {[]api.Witness{w("A", ""), w("a", "")}, api.OK}, {[]api.Witness{w("A", strings.Repeat(" ", api.MaxText))}, api.OK}, {[]api.Witness{w("A", strings.Repeat(" ", api.MaxText+1))}, api.ErrLong}, {[]api.Witness{w("A", many)}, api.OK}, {[]api.Witness{w("A", many+"x")}, api.ErrLong},
		{[]api.Witness{w("A", many+"x"), w("A", "")}, api.ErrLong}, {[]api.Witness{w("A", ""), w("A", many+"x")}, api.ErrArg}, {[]api.Witness{w("A", many), w("B", row(0, 100)+"x "+row(100, 155))}, api.ErrLong}, {[]api.Witness{w("A", many), w("B", row(1, 255)+"x")}, api.ErrLong}, {[]api.Witness{w("A", row(0, 255)), w("B", row(1, 254)+"x")}, api.OK}, {[]api.Witness{w("A", many), w("B", row(1, 255)+"x"), w("-", "")}, api.ErrArg}, {[]api.Witness{w("A", many), w("B", row(5000, 256))}, api.OK},
	} {
		y, e := witness.New(x.l)
		if e != x.want || (y == nil) != (e != api.OK) {
			t.Errorf("%d: New: %v, want %v", k, e, x.want)
		}
	}
	begun := time.Now()
	var l []api.Witness
	c := chance(2)
	for _, x := range eight {
		for range 110 {
			x.Text += c.of("a", "b", "c", "d", "e") + " "
		}
		l = append(l, x)
	}
	x := table(t, l...)
	s, n := x.Best()
	if got, _ := x.Changes(s); got != n || x.Ties() < 1 {
		t.Error("eight witnesses", s, n, got)
	}
	k := 0
	for range x.Trees() {
		k++
	}
	if k != 10395 {
		t.Error("eight witnesses:", k, "trees")
	}
	if time.Since(begun) > 30*time.Second {
		t.Error("too slow:", time.Since(begun))
	}
}

// fox are the witnesses of the chapter's examples.
func fox(t *testing.T) *witness.Table {
	return table(t, api.Witness{Name: "A", Text: "the quick fox"}, api.Witness{Name: "B", Text: "the quick brown fox"}, api.Witness{Name: "C", Text: "a brown fox"}, api.Witness{Name: "D", Text: "a quick fox"})
}

// P29.4: what says no tree.
func TestTree(t *testing.T) {
	x := fox(t)
	for text, want := range map[string]int{"": 0, "(A,B)": 5, "(A,(B,(C,E)))": 9, "(A,B),": 5, "(A,A)": 3, "A": 1, "(": 1, "(A": 2, "(A,": 3, "(A)": 2, "((A,B),(C,D)": 12, "((A,B),(C,D))x": 13, "((A,B),(C,D)))": 13, "(A,(B,(C,D))) ": 13, " A": 0, "(A ,B)": 2, "(AB,C)": 1, "(a,B)": 1, "(A,(B,(C,D1)))": 9, "(A,(B,(C,D\u00e9)))": 9, "(A,(B,(C,D\u0301)))": 10, ")": 0, ",": 0, "\xff": 0, "((((((((((": 10, strings.Repeat("(", 1<<20): 1 << 20} {
		a, bad := x.Tree(text)
		b, worse := x.Changes(text)
		c, worst := x.Root(text)
		spot := api.Spot{Err: api.ErrTree, At: want}
		if bad != spot || worse != spot || worst != spot || a != "" || b != 0 || len(c) > 0 {
			t.Errorf("Tree(%.20q): %v, %v, %v, want %d", text, bad, worse, worst, want)
		}
	}
	one := table(t, api.Witness{Name: "A1", Text: "x y"})
	if s, bad := one.Tree("A1"); s != "A1" || bad.Err != api.OK {
		t.Error("one witness", s, bad)
	}
	if l, _ := one.Root("A1"); !slices.Equal(l, []int{1, 1}) {
		t.Error("one witness", l)
	}
	if _, bad := one.Tree("A"); bad != (api.Spot{Err: api.ErrTree}) {
		t.Error("one witness", bad)
	}
	if s, n := one.Best(); s != "A1" || n != 0 || one.Ties() != 1 {
		t.Error("one witness", s, n)
	}
}

// The examples of the chapter, and R4.
func TestExamples(t *testing.T) {
	x := fox(t)
	if x.Columns() != 4 || !slices.Equal(x.Readings(0), []int{1, 1, 2, 2}) || !slices.Equal(x.Readings(1), []int{1, 1, 0, 1}) || !slices.Equal(x.Readings(2), []int{0, 1, 1, 0}) || !slices.Equal(x.Varied(), []int{0, 1, 2}) {
		t.Error(x.Columns(), x.Varied())
	}
	if s, _ := x.Slot(2, 1); s != (api.Slot{Word: "brown", Span: api.Span{From: 10, To: 15}, Reading: 1}) {
		t.Error(s)
	}
	if s, e := x.Slot(2, 0); s != (api.Slot{}) || e != api.OK {
		t.Error(s, e)
	}
	if got := slices.Collect(x.Trees()); !slices.Equal(got, []string{"(A,((B,C),D))", "(A,((B,D),C))", "(A,(B,(C,D)))"}) {
		t.Error(got)
	}
	if s, n := x.Best(); s != "(A,((B,C),D))" || n != 4 || x.Ties() != 2 {
		t.Error(s, n, x.Ties())
	}
	if s, _ := x.Tree("((C,B),(D,A))"); s != "(A,((B,C),D))" {
		t.Error(s)
	}
	if l, _ := x.Root("(A,((B,C),D))"); !slices.Equal(l, []int{1, 1, 0, 1}) {
		t.Error(l)
	}
	for _, k := range [][2]int{{-1, 0}, {4, 0}, {0, -1}, {0, 4}, {1 << 62, -1 << 63}} {
		s, e := x.Slot(k[0], k[1])
		n, f := x.Apart(k[0], k[1])
		if e != api.ErrRange || s != (api.Slot{}) || (f != api.ErrRange || n != 0) {
			t.Error(k, e, f)
		}
		if l := x.Readings(k[0]); k[0] != 0 && len(l) > 0 {
			t.Error(k, l)
		}
		for range x.Row(k[1]) {
			if k[1] != 0 {
				t.Error("Row", k[1])
			}
			break
		}
	}
	for range x.Trees() {
		break
	}
	var none *witness.Table
	_, a := none.Slot(0, 0)
	_, b := none.Apart(0, 0)
	_, c := none.Tree("x")
	_, d := none.Changes("x")
	_, e := none.Root("x")
	s, n := none.Best()
	nil0 := api.Spot{Err: api.ErrNil}
	if a != api.ErrNil || b != api.ErrNil || c != nil0 || d != nil0 || e != nil0 || s != "" || n+none.Ties()+none.Witnesses()+none.Columns() != 0 || len(none.Readings(0))+len(none.Varied()) > 0 {
		t.Error("a nil table")
	}
	for range none.Trees() {
		t.Error("Trees")
	}
	for range none.Row(0) {
		t.Error("Row")
	}
}
