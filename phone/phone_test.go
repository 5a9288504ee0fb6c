package phone_test

import (
	"slices"
	"strings"
	"testing"

	"canticle/api"
	"canticle/phone"
	"canticle/runes"
)

// vowels and consonants stand in the fields of the chapter's two tables.
var vowels = []struct {
	height int
	fields [3]string
}{
	{6, [3]string{"iy", "", "u"}}, {4, [3]string{"e\u00f8", "", "o"}}, {3, [3]string{"", "\u0259", ""}}, {2, [3]string{"\u025b", "", "\u0254"}}, {1, [3]string{"\u00e6", "", ""}}, {0, [3]string{"", "a", "\u0251"}},
}

var consonants = [6][7]string{
	{"pb", "", "td", "", "", "kg", "\u0294-"},
	{"", "", "", "\u02a7\u02a4", "", "", ""},
	{"fv", "\u03b8\u00f0", "sz", "\u0283\u0292", "", "x-", "h-"},
	{"m", "", "n", "", "", "\u014b", ""},
	{"", "", "l", "r", "", "", ""},
	{"w", "", "", "", "j", "", ""},
}

func traits() map[rune]api.Traits {
	m := map[rune]api.Traits{}
	for _, row := range vowels {
		for back, field := range row.fields {
			for _, r := range field {
				m[r] = api.Traits{Vowel: true, Height: row.height, Back: back, Round: strings.ContainsRune("yu\u00f8o\u0254", r)}
			}
		}
	}
	for manner, row := range consonants {
		for place, field := range row {
			l := []rune(field)
			for k, r := range l {
				if r != '-' {
					m[r] = api.Traits{Place: place, Manner: manner, Voiced: k == 1 || len(l) == 1}
				}
			}
		}
	}
	return m
}

var all = traits()

// P8.1
func TestTable(t *testing.T) {
	var want []rune
	for r := range all {
		want = append(want, r)
	}
	slices.Sort(want)
	if got := slices.Collect(phone.All()); len(got) != 38 || !slices.Equal(got, want) {
		t.Errorf("All: %q", got)
	}
	for range phone.All() {
		break
	}
	for r := rune(-2); r < 0x500; r++ {
		x, ok := phone.Of(r)
		if w, is := all[r]; x != w || ok != is {
			t.Errorf("Of(%x): %v, %v", r, x, ok)
		}
	}
	for _, r := range []rune{-1 << 31, 0xD800, 0xFFFD, 1<<31 - 1} {
		if x, ok := phone.Of(r); ok || x != (api.Traits{}) {
			t.Errorf("Of(%x)", r)
		}
	}
}

func is(p api.Phone) bool {
	x, ok := all[p.Rune]
	return ok && (p.Glide == 0 || x.Vowel && (p.Glide == 'i' || p.Glide == 'u'))
}

// every is all phones, and some that are none.
func every(yield func(api.Phone) bool) {
	for _, r := range append(slices.Collect(phone.All()), 'c', 'q', 0, -1, 0x2D0, 0x110000, 'A') {
		for _, long := range []bool{false, true} {
			for _, glide := range []rune{0, 'i', 'u', 'e', -1, 1} {
				if !yield(api.Phone{Rune: r, Long: long, Glide: glide}) {
					return
				}
			}
		}
	}
}

// P8.2, P8.5, P8.9
func TestPhones(t *testing.T) {
	far := func(a, b int) int { return max(a-b, b-a) }
	one := func(b bool, n int) int {
		if b {
			return n
		}
		return 0
	}
	n := 0
	for p := range every {
		x := all[p.Rune]
		want := 0
		if is(p) {
			n++
			if want = x.Manner + 1; x.Vowel {
				want = 7
			}
		}
		if phone.Is(p) != is(p) || phone.Sonority(p) != want {
			t.Errorf("%v: %v, %d", p, phone.Is(p), phone.Sonority(p))
		}
		lone, e := phone.Lone(p)
		want = 10 + one(x.Vowel, 4) + one(p.Long, 2) + one(p.Glide != 0, 3)
		if is(p) && (e != api.OK || lone != want) || !is(p) && (e != api.ErrArg || lone != 0) {
			t.Errorf("Lone(%v): %d, %v", p, lone, e)
		}
		for q := range every {
			y := all[q.Rune]
			want := 40
			if x.Vowel == y.Vowel {
				want = 3*far(x.Height, y.Height) + 2*far(x.Back, y.Back) + one(x.Round != y.Round, 1) + 2*far(x.Place, y.Place) + 3*far(x.Manner, y.Manner) + one(x.Voiced != y.Voiced, 1)
				want += one(p.Long != q.Long, 2) + one(p.Glide != q.Glide, 3)
			}
			got, e := phone.Apart(p, q)
			if ok := is(p) && is(q); ok && (e != api.OK || got != want) || !ok && (e != api.ErrArg || got != 0) {
				t.Errorf("Apart(%v, %v): %d, %v, want %d", p, q, got, e, want)
			}
			if is(p) && is(q) && (got == 0) != (p == q) {
				t.Errorf("Apart(%v, %v): %d", p, q, got)
			}
		}
	}
	if n != 26*2+12*6 {
		t.Error(n)
	}
}

func text(p api.Phone) string {
	s := string(p.Rune)
	if p.Long {
		s += "\u02d0"
	}
	if p.Glide != 0 {
		s += string(p.Glide) + "\u032f"
	}
	return s
}

// reads cuts a text into phones by trying all phones' texts at each place; the longest is taken.
func reads(s string) (l []api.Phone, ends []int) {
	at := 0
	for {
		var best api.Phone
		n := 0
		for p := range every {
			if w := text(p); is(p) && strings.HasPrefix(s[at:], w) && len(w) > n {
				best, n = p, len(w)
			}
		}
		if n == 0 {
			return l, ends
		}
		at += n
		l, ends = append(l, best), append(ends, at)
	}
}

func texts(n, most int) func(yield func(string) bool) {
	bits := []string{"a", "i", "u", "i\u032f", "u\u032f", "\u02d0", "t", "s", "\u0259", "\u014b", "\u02a7", "\u032f", "c", "\xff", "\xcc", "\u00f8", "o", "A", "p"}
	return func(yield func(string) bool) {
		x := uint64(17)
		for range n {
			s := ""
			x = x*6364136223846793005 + 1442695040888963407
			for range int(x>>33) % most {
				x = x*6364136223846793005 + 1442695040888963407
				k := int(x>>33) % (len(bits) * 2)
				s += bits[k%(len(bits)-6*(k/len(bits)))]
			}
			if !yield(s) {
				return
			}
		}
	}
}

// P8.3, P8.4, P8.8
func TestRead(t *testing.T) {
	for s := range texts(3000, 12) {
		want, ends := reads(s)
		k := 0
		for x, p := range phone.Each(s) {
			from := 0
			if k > 0 {
				from = ends[k-1]
			}
			if k == len(want) || p != want[k] || x != (api.Span{From: from, To: ends[k]}) {
				t.Fatalf("Each(%q): %v %v", s, x, p)
			}
			if !runes.Boundary(s, x.From) || !runes.Boundary(s, x.To) {
				t.Fatalf("Each(%q): %v", s, x)
			}
			k++
		}
		if k != len(want) {
			t.Fatalf("Each(%q): %d phones, want %d", s, k, len(want))
		}
		l, bad := phone.Read(s)
		end := 0
		if k > 0 {
			end = ends[k-1]
		}
		if end < len(s) {
			if bad != (api.Spot{Err: api.ErrPhone, At: end}) || len(l) > 0 {
				t.Fatalf("Read(%q): %v, %v", s, l, bad)
			}
			continue
		}
		if bad != (api.Spot{}) || !slices.Equal(l, want) {
			t.Fatalf("Read(%q): %v, %v", s, l, bad)
		}
		if p, e := phone.Print(l); p != s || e != api.OK {
			t.Fatalf("Print of Read(%q): %q, %v", s, p, e)
		}
	}
	for range phone.Each("ab") {
		break
	}
	var l []api.Phone
	for p := range every {
		if is(p) {
			l = append(l, p)
		}
	}
	for i, p := range l {
		for _, row := range [][]api.Phone{{p}, {p, l[(i*7)%len(l)], p}} {
			s, e := phone.Print(row)
			if got, bad := phone.Read(s); e != api.OK || bad.Err != api.OK || !slices.Equal(got, row) {
				t.Errorf("%v there and back: %q, %v, %v", row, s, got, bad)
			}
		}
	}
	for p := range every {
		if s, e := phone.Print([]api.Phone{l[0], p}); !is(p) && (e != api.ErrArg || s != "") {
			t.Errorf("Print of %v: %q, %v", p, s, e)
		}
	}
}

// P8.3, P8.6: at the limit, and one past it.
func TestLimits(t *testing.T) {
	at := strings.Repeat("a\u02d0", api.MaxPhones)
	l, bad := phone.Read(at)
	if bad != (api.Spot{}) || len(l) != api.MaxPhones {
		t.Error("at the limit", bad)
	}
	if m, bad := phone.Read(at + "t"); bad != (api.Spot{Err: api.ErrLong, At: len(at)}) || len(m) > 0 {
		t.Error("behind it", bad)
	}
	if _, bad := phone.Read(at + "tq"); bad != (api.Spot{Err: api.ErrLong, At: len(at)}) {
		t.Error("behind it, and broken", bad)
	}
	if _, bad := phone.Read(at + "q"); bad != (api.Spot{Err: api.ErrPhone, At: len(at)}) {
		t.Error("broken at the limit", bad)
	}
	n := 0
	for range phone.Each(at + at) {
		n++
	}
	if n != 2*api.MaxPhones {
		t.Error("Each", n)
	}
	long := append(slices.Clone(l), l[0])
	if s, e := phone.Print(l); s != at || e != api.OK {
		t.Error("Print at the limit", e)
	}
	if s, e := phone.Print(append(long, api.Phone{})); s != "" || e != api.ErrLong {
		t.Error("Print behind it", e)
	}
	bad2 := []api.Phone{{}}
	for _, x := range [][2][]api.Phone{{long, nil}, {nil, long}, {long, bad2}, {bad2, long}} {
		_, e := phone.Distance(x[0], x[1])
		_, ok, f := phone.Within(x[0], x[1], -1)
		_, g := phone.Align(x[0], x[1])
		if e != api.ErrLong || f != api.ErrLong || ok || g != api.ErrLong {
			t.Error(e, f, g)
		}
	}
	for _, x := range [][2][]api.Phone{{bad2, nil}, {nil, bad2}, {l, bad2}} {
		n, e := phone.Distance(x[0], x[1])
		k, ok, f := phone.Within(x[0], x[1], 1<<40)
		m, g := phone.Align(x[0], x[1])
		if e != api.ErrArg || f != api.ErrArg || ok || g != api.ErrArg || n != 0 || k != 0 || len(m) > 0 {
			t.Error(e, f, g)
		}
	}
	if n, e := phone.Distance(l, nil); n != 16*api.MaxPhones || e != api.OK {
		t.Error("Distance at the limit", n, e)
	}
	if m, e := phone.Align(l, l); e != api.OK || len(m) != api.MaxPhones {
		t.Error("Align at the limit", e)
	}
	if _, ok, e := phone.Within(nil, nil, -1); ok || e != api.ErrArg {
		t.Error("Within by less than nothing", e)
	}
}

// aligns goes through all alignments; the first of those that cost the least is told, and what it costs.
func aligns(a, b []api.Phone, i, j int) (int, []api.Pair) {
	if i == len(a) && j == len(b) {
		return 0, nil
	}
	best, row := 1<<30, []api.Pair(nil)
	try := func(cost, di, dj int, p api.Pair) {
		n, l := aligns(a, b, i+di, j+dj)
		if n+cost < best {
			best, row = n+cost, append([]api.Pair{p}, l...)
		}
	}
	if i < len(a) && j < len(b) {
		n, _ := phone.Apart(a[i], b[j])
		try(n, 1, 1, api.Pair{A: i, B: j})
	}
	if i < len(a) {
		n, _ := phone.Lone(a[i])
		try(n, 1, 0, api.Pair{A: i, B: -1})
	}
	if j < len(b) {
		n, _ := phone.Lone(b[j])
		try(n, 0, 1, api.Pair{A: -1, B: j})
	}
	return best, row
}

// P8.6, P8.7, P8.9, P8.10
func TestDistance(t *testing.T) {
	var last, older []api.Phone
	for s := range texts(1500, 7) {
		l, _ := reads(s)
		want, row := aligns(l, last, 0, 0)
		n, e := phone.Distance(l, last)
		if e != api.OK || n != want {
			t.Fatalf("Distance(%v, %v): %d, %v, want %d", l, last, n, e, want)
		}
		if m, e := phone.Align(l, last); e != api.OK || !slices.Equal(m, row) {
			t.Fatalf("Align(%v, %v): %v, %v, want %v", l, last, m, e, row)
		}
		for most := want - 1; most <= want+1; most++ {
			k, ok, e := phone.Within(l, last, most)
			if most < 0 {
				if e != api.ErrArg || ok || k != 0 {
					t.Fatalf("Within(%v, %v, %d): %d, %v, %v", l, last, most, k, ok, e)
				}
			} else if is := want <= most; e != api.OK || ok != is || is && k != want || !is && k != 0 {
				t.Fatalf("Within(%v, %v, %d): %d, %v, %v", l, last, most, k, ok, e)
			}
		}
		if back, _ := phone.Distance(last, l); back != want {
			t.Fatalf("Distance(%v, %v) the other way: %d", l, last, back)
		}
		ab, _ := phone.Distance(l, older)
		bc, _ := phone.Distance(older, last)
		if want > ab+bc {
			t.Fatalf("Distance(%v, %v) by way of %v", l, last, older)
		}
		if both, _ := phone.Distance(slices.Concat(older, l), slices.Concat(older, last)); both > want {
			t.Fatalf("Distance(%v, %v) behind %v", l, last, older)
		}
		alone := 0
		for _, p := range l {
			k, _ := phone.Lone(p)
			alone += k
		}
		if k, _ := phone.Distance(l, nil); k != alone {
			t.Fatalf("Distance(%v) to nothing: %d", l, k)
		}
		older, last = last, l
	}
}

// The examples of the chapter.
func TestExamples(t *testing.T) {
	row := func(s string) []api.Phone {
		l, bad := phone.Read(s)
		if bad.Err != api.OK {
			t.Fatal(s, bad)
		}
		return l
	}
	for s, want := range map[string][]api.Phone{
		"ai\u032f":       {{Rune: 'a', Glide: 'i'}},
		"ai":             {{Rune: 'a'}, {Rune: 'i'}},
		"a\u02d0u\u032f": {{Rune: 'a', Long: true, Glide: 'u'}},
		"s\u02d0t":       {{Rune: 's', Long: true}, {Rune: 't'}},
		"":               nil,
	} {
		if got := row(s); !slices.Equal(got, want) {
			t.Errorf("Read(%q): %v", s, got)
		}
	}
	for s, at := range map[string]int{"\u02d0": 0, "t\u032f": 1, "a\xff": 1, "ti\u032f": 2, "a\u02d0\u02d0": 3} {
		if l, bad := phone.Read(s); bad != (api.Spot{Err: api.ErrPhone, At: at}) || len(l) > 0 {
			t.Errorf("Read(%q): %v", s, bad)
		}
	}
	for _, x := range []struct {
		a, b string
		want int
	}{{"kat", "k\u0251t", 2}, {"kat", "at", 10}, {"", "a", 14}, {"p", "a", 24}} {
		if n, _ := phone.Distance(row(x.a), row(x.b)); n != x.want {
			t.Errorf("Distance(%q, %q) = %d", x.a, x.b, n)
		}
	}
	if l, _ := phone.Align(row("kat"), row("at")); !slices.Equal(l, []api.Pair{{A: 0, B: -1}, {A: 1, B: 0}, {A: 2, B: 1}}) {
		t.Error(l)
	}
	if l, _ := phone.Align(row("p"), row("a")); !slices.Equal(l, []api.Pair{{A: 0, B: -1}, {A: -1, B: 0}}) {
		t.Error(l)
	}
}
