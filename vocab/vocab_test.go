package vocab_test

import (
	"cmp"
	"slices"
	"strconv"
	"strings"
	"testing"

	"canticle/api"
	"canticle/collate"
	"canticle/fold"
	"canticle/lexicon"
	"canticle/rhyme"
	"canticle/rule"
	"canticle/syllable"
	"canticle/vocab"
)

type chance uint64

func (c *chance) less(n int) int {
	*c = *c*6364136223846793005 + 1442695040888963407
	return int(uint64(*c)>>33) % n
}

func (c *chance) of(l ...string) string { return l[c.less(len(l))] }

func book(t *testing.T) *lexicon.Lexicon {
	t.Helper()
	r, _ := rule.Read("(q) > t\n(y) > aka\n(b) > b\n(a) > a")
	x, bad := lexicon.Read("rose = r\u02c8oz\nnose = n\u02c8oz\narose = \u0259r\u02c8oz\nthe = \u00f0\u0259\nlily = l\u02c8ili\nwind = w\u02c8ind, w\u02c8ai\u032fnd, t\nkind = k\u02c8ai\u032fnd\nzone = z\u02cco, z\u02c8oz\ndon't = d\u02c8ont\nelan = el\u02c8a\n", r)
	if bad.Err != api.OK {
		t.Fatal(bad)
	}
	return x
}

func order(t *testing.T, text string) *collate.Order {
	t.Helper()
	o, bad := collate.Read(text)
	if bad.Err != api.OK {
		t.Fatal(bad)
	}
	return o
}

func vocabulary(t *testing.T, x *lexicon.Lexicon, text string) *vocab.Vocab {
	t.Helper()
	v, e := vocab.New(x, order(t, ""), api.RuleFirst)
	if e != api.OK || v == nil {
		t.Fatal(e)
	}
	if bad := v.Read(text); bad != (api.Spot{}) {
		t.Fatalf("Read(%q): %v", text, bad)
	}
	return v
}

const example = "rose n 5\narose v 2\nlily n 5\nthe t 9\n"

func words(seq func(func(api.Found) bool)) string {
	s := ""
	for f := range seq {
		s += f.Entry.Word + strconv.Itoa(f.Form) + " "
	}
	return s
}

func entries(seq func(func(api.Entry) bool)) []api.Entry { return slices.Collect(seq) }

// forms are a word's forms, by the layers below.
func forms(x *lexicon.Lexicon, w string) []api.Said {
	var l []api.Said
	ways, _ := x.Sounds(w)
	for _, s := range ways {
		if y, e := syllable.Lay(s.Phones, s.Stress, api.RuleFirst); e == api.OK {
			l = append(l, api.Said{Phones: s.Phones, Syllables: y})
		}
	}
	return l
}

// fits is what the chapter says of a form that fits.
func fits(e api.Entry, f api.Said, w api.Want) bool {
	if w.Kinds != "" && !strings.ContainsAny(e.Kinds, w.Kinds) || w.Syllables > 0 && w.Syllables != len(f.Syllables) || !strings.HasPrefix(lexicon.Key(e.Word), fold.Fold(w.Begins)) {
		return false
	}
	if key, _ := rhyme.Key(f); w.Rhymes != "" && key != w.Rhymes {
		return false
	}
	if w.Signs == "" {
		return true
	}
	if len(w.Signs) != len(f.Syllables) {
		return false
	}
	for k, s := range f.Syllables {
		switch w.Signs[k] {
		case '/':
			if s.Stress == 0 {
				return false
			}
		case 'x':
			if s.Stress != 0 && len(f.Syllables) > 1 {
				return false
			}
		}
	}
	return true
}

// found is what is found, in its order.
func found(x *lexicon.Lexicon, o *collate.Order, all []api.Entry, w api.Want) []api.Found {
	var l []api.Found
	for _, e := range all {
		for k, f := range forms(x, e.Word) {
			if fits(e, f, w) {
				l = append(l, api.Found{Entry: e, Form: k})
				break
			}
		}
	}
	slices.SortFunc(l, func(a, b api.Found) int {
		n, _ := o.Compare(a.Entry.Word, b.Entry.Word)
		return cmp.Or(b.Entry.Weight-a.Entry.Weight, n)
	})
	return l
}

// P24.3 to P24.9
func TestAll(t *testing.T) {
	x := book(t)
	o := order(t, "put ab after z\nskip the")
	c := chance(1)
	for range 800 {
		v, _ := vocab.New(x, o, api.RuleFirst)
		var all []api.Entry
		for range c.less(9) {
			e := api.Entry{Word: c.of("rose", "nose", "Arose", "the", "lily", "wind", "kind", "zone", "don\u2019t", "\u00c9lan", "ab", "baa"), Kinds: c.of("n", "v", "nv", "acdimnprtv", "t"), Weight: 1 + c.less(4)}
			if v.Add(e) == api.OK {
				all = append(all, e)
			}
			if c.less(6) == 0 {
				w := c.of("rose", "LILY", "don't")
				had := len(all)
				all = slices.DeleteFunc(all, func(e api.Entry) bool { return lexicon.Key(e.Word) == lexicon.Key(w) })
				if e := v.Remove(w); (e == api.OK) != (len(all) < had) || e != api.OK && e != api.ErrNone {
					t.Fatal("Remove", w, e)
				}
			}
		}
		slices.SortFunc(all, func(a, b api.Entry) int { n, _ := o.Compare(a.Word, b.Word); return n })
		text := ""
		for _, e := range all {
			text += e.Word + " " + e.Kinds + " " + strconv.Itoa(e.Weight) + "\n"
		}
		if v.Len() != len(all) || !slices.Equal(entries(v.All()), all) || v.Print() != text {
			t.Fatalf("%q, want %q", v.Print(), text)
		}
		again, _ := vocab.New(x, o, api.RuleFirst)
		if bad := again.Read(text); bad.Err != api.OK || again.Print() != text {
			t.Fatalf("%q there and back: %v", text, bad)
		}
		for range 12 {
			w := api.Want{Kinds: c.of("", "", "n", "tv", "acdimnprtv"), Signs: c.of("", "", "", "/", "x", "?", "x/", "/x", "??", "xx"), Rhymes: c.of("", "", "", "oz", "ai\u032fnd", "ili", "\u0259"), Begins: c.of("", "", "", "R", "\u00e9l", "wi", "\u2019"), Syllables: []int{0, 0, 0, 1, 2, 3}[c.less(6)]}
			want := found(x, o, all, w)
			if got := slices.Collect(v.Select(w)); !slices.Equal(got, want) {
				t.Fatalf("%q: Select(%v): %v, want %v", text, w, got, want)
			}
			seed := uint64(c.less(1<<30))<<33 | uint64(c.less(1<<30))
			drawn(t, v, w, seed, want)
		}
		for _, w := range []string{"rose", "WIND", "zone", "x", "the"} {
			rhymes(t, x, o, v, all, w)
		}
	}
}

// drawn holds what is drawn against all that is found.
func drawn(t *testing.T, v *vocab.Vocab, w api.Want, seed uint64, all []api.Found) {
	t.Helper()
	got, y, e := v.Draw(w, seed)
	if len(all) == 0 {
		if e != api.ErrNone || y != 0 || got != (api.Found{}) {
			t.Fatalf("Draw of nothing: %v, %v", got, e)
		}
		return
	}
	sum := uint64(0)
	for _, f := range all {
		sum += uint64(f.Entry.Weight)
	}
	next := seed*6364136223846793005 + 1442695040888963407
	n, up := (next>>33)%sum, uint64(0)
	var want api.Found
	for _, f := range slices.Backward(all) {
		if sum-up > n {
			want = f
		}
		up += uint64(f.Entry.Weight)
	}
	if e != api.OK || y != next || got != want {
		t.Fatalf("Draw(%v, %d): %v, %d, %v, want %v", w, seed, got, y, e, want)
	}
}

func rhymes(t *testing.T, x *lexicon.Lexicon, o *collate.Order, v *vocab.Vocab, all []api.Entry, w string) {
	t.Helper()
	keys := func(w string) []string {
		var l []string
		for _, f := range forms(x, w) {
			k, _ := rhyme.Key(f)
			l = append(l, k)
		}
		return l
	}
	own, ok := v.Get(w)
	k := slices.IndexFunc(all, func(e api.Entry) bool { return lexicon.Key(e.Word) == lexicon.Key(w) })
	if ok != (k >= 0) || ok && own != all[k] || !ok && own != (api.Entry{}) {
		t.Fatalf("Get(%q): %v, %v", w, own, ok)
	}
	f := v.Forms(w)
	var want []api.Entry
	if ok {
		if !slices.EqualFunc(f, forms(x, own.Word), func(a, b api.Said) bool {
			return slices.Equal(a.Phones, b.Phones) && slices.Equal(a.Syllables, b.Syllables)
		}) {
			t.Fatalf("Forms(%q): %v", w, f)
		}
		f[0].Phones[0].Rune, f[0].Syllables[0].Stress = 'x', 9
		for _, y := range found(x, o, all, api.Want{}) {
			if y.Entry != own && slices.ContainsFunc(keys(y.Entry.Word), func(k string) bool { return slices.Contains(keys(own.Word), k) }) {
				want = append(want, y.Entry)
			}
		}
	} else if len(f) > 0 {
		t.Fatalf("Forms(%q): %v", w, f)
	}
	if got := entries(v.Rhymes(w)); !slices.Equal(got, want) {
		t.Fatalf("Rhymes(%q): %v, want %v", w, got, want)
	}
}

// P24.2: what is refused changes nothing.
func TestRefused(t *testing.T) {
	v := vocabulary(t, book(t), example)
	text := v.Print()
	e := func(word, kinds string, weight int) api.Entry {
		return api.Entry{Word: word, Kinds: kinds, Weight: weight}
	}
	long := strings.Repeat("a", api.MaxWord)
	for k, x := range []struct {
		l    []api.Entry
		want api.Errno
	}{
		{[]api.Entry{e("nose", "n", 1), e("rose", "n", 1)}, api.ErrThere}, {[]api.Entry{e("x", "n", 0)}, api.ErrArg}, {[]api.Entry{e("nose", "z", 1)}, api.ErrKinds}, {[]api.Entry{e("xxx", "n", 1)}, api.ErrNone},
		{[]api.Entry{e("two words", "n", 1)}, api.ErrArg}, {[]api.Entry{e("", "n", 1)}, api.ErrArg}, {[]api.Entry{e("1", "z", 1)}, api.ErrArg}, {[]api.Entry{e(long+"a", "n", 1)}, api.ErrArg}, {[]api.Entry{e("nose", "n", -1)}, api.ErrArg}, {[]api.Entry{e("nose", "n", 1001)}, api.ErrArg}, {[]api.Entry{e("nose", "z", 1001)}, api.ErrArg},
		{[]api.Entry{e("nose", "", 1)}, api.ErrKinds}, {[]api.Entry{e("nose", "vn", 1)}, api.ErrKinds}, {[]api.Entry{e("nose", "nn", 1)}, api.ErrKinds}, {[]api.Entry{e("nose", "N", 1)}, api.ErrKinds}, {[]api.Entry{e("rose", "q", 1)}, api.ErrKinds},
		{[]api.Entry{e("R\u00d6SE", "n", 1)}, api.ErrThere}, {[]api.Entry{e("nose", "n", 1), e("Nose", "v", 2)}, api.ErrThere}, {[]api.Entry{e("nose", "n", 1), e("xxx", "v", 2)}, api.ErrNone}, {[]api.Entry{e("q", "n", 1)}, api.ErrNone}, {[]api.Entry{e(strings.Repeat("y", 40), "n", 1)}, api.ErrNone},
	} {
		if got := v.Add(x.l...); got != x.want || v.Print() != text {
			t.Errorf("%d: Add: %v, want %v", k, got, x.want)
		}
	}
	if got := v.Remove("tulip"); got != api.ErrNone || v.Print() != text {
		t.Error("Remove", got)
	}
	if got := v.Add(e(long, "acdimnprtv", 1000), e("nose", "n", 1)); got != api.OK || v.Len() != 6 {
		t.Error("at the limits", got)
	}
	if got := v.Add(); got != api.OK {
		t.Error("none", got)
	}
}

// P24.2, P24.5
func TestMany(t *testing.T) {
	x := book(t)
	v, _ := vocab.New(x, order(t, ""), api.RuleLast)
	var l []api.Entry
	for k := range api.MaxWords {
		word := ""
		for b := range 12 {
			word += "ab"[k>>b&1 : k>>b&1+1]
		}
		l = append(l, api.Entry{Word: word + "a", Kinds: "n", Weight: 1})
	}
	if e := v.Add(l...); e != api.OK || v.Len() != api.MaxWords {
		t.Fatal("as many as go", e)
	}
	if e := v.Add(api.Entry{Word: "rose", Kinds: "n", Weight: 1}); e != api.ErrLong {
		t.Error("one more", e)
	}
	if e := v.Add(api.Entry{Word: "qqq", Kinds: "n", Weight: 1}); e != api.ErrNone {
		t.Error("one more that has no form", e)
	}
	if bad := v.Read("rose n 1"); bad != (api.Spot{Err: api.ErrLong}) {
		t.Error("one more read", bad)
	}
}

// P24.5
func TestRead(t *testing.T) {
	x := book(t)
	spot := func(e api.Errno, at int) api.Spot { return api.Spot{Err: e, At: at} }
	for text, want := range map[string]api.Spot{
		"": {}, "\n\n": {}, "nose n 1": {}, "nose n 1\n": {}, "\nnose n 1\n\nkind n 2": {},
		"nose": spot(102, 0), "nose n": spot(102, 0), "nose n 1 ": spot(102, 0), "nose  n 1": spot(102, 0), "nose n 01": spot(102, 0), "nose n +1": spot(102, 0), "nose n x": spot(102, 0), "nose n ": spot(102, 0), "nose n 1\nkind": spot(102, 9), "nose n 1\r\n": spot(102, 0), "nose n -0": spot(102, 0), "nose n 1000000000000000000": spot(102, 0), "nose n 999999999999999999": spot(2, 0), "nose n -1": spot(2, 0), "nose n 0": spot(2, 0),
		" n 1": spot(2, 0), "nose  1": spot(240, 0), "nose q 1": spot(240, 0), "nose n 1\nNOSE n 1": spot(241, 9), "rose n 1": spot(241, 0), "xxx n 1": spot(4, 0), "nose n 1\n\n1 n 1": spot(2, 10),
		strings.Repeat("\n", api.MaxText): {}, strings.Repeat("\n", api.MaxText+1): spot(3, api.MaxText),
	} {
		v := vocabulary(t, x, example)
		before := v.Print()
		if bad := v.Read(text); bad != want || bad.Err != api.OK && v.Print() != before {
			t.Errorf("Read(%.30q): %v, want %v", text, bad, want)
		}
	}
}

// P24.1, P24.4: what may not be, and nil ones.
func TestMay(t *testing.T) {
	x, o := book(t), order(t, "")
	for k, y := range []struct {
		x    *lexicon.Lexicon
		o    *collate.Order
		rule int
		want api.Errno
	}{{nil, o, 0, api.ErrNil}, {x, nil, 0, api.ErrNil}, {x, o, 0, api.ErrArg}, {x, o, 5, api.ErrArg}, {x, o, 4, api.OK}} {
		if v, e := vocab.New(y.x, y.o, y.rule); e != y.want || (v == nil) != (e != api.OK) {
			t.Errorf("%d: New: %v", k, e)
		}
	}
	v := vocabulary(t, x, example)
	for k, w := range []api.Want{{Kinds: "nn"}, {Kinds: "z"}, {Kinds: "vn"}, {Signs: "X"}, {Signs: strings.Repeat("?", 65)}, {Syllables: -1}, {Syllables: 65}, {Signs: "\\"}} {
		f, y, e := v.Draw(w, 1)
		if words(v.Select(w)) != "" || e != api.ErrArg || y != 0 || f != (api.Found{}) {
			t.Errorf("%d: %v", k, e)
		}
	}
	for k, w := range []api.Want{{Signs: strings.Repeat("?", 64)}, {Syllables: 64}} {
		if _, _, e := v.Draw(w, 1); e != api.ErrNone {
			t.Errorf("%d: %v", k, e)
		}
	}
	var none *vocab.Vocab
	_, ok := none.Get("rose")
	_, y, e := none.Draw(api.Want{Kinds: "z"}, 1)
	if none.Add() != api.ErrNil || none.Remove("") != api.ErrNil || none.Len() != 0 || ok || len(none.Forms("rose")) > 0 || y != 0 || e != api.ErrNil || none.Copy() != nil || none.Print() != "" || none.Read("x") != (api.Spot{Err: api.ErrNil}) || words(none.Select(api.Want{}))+none.Print() != "" || len(entries(none.All()))+len(entries(none.Rhymes("rose"))) > 0 {
		t.Error("a nil vocabulary")
	}
}

// The examples of the chapter, and what becomes of copies and of the lexicon.
func TestExamples(t *testing.T) {
	x := book(t)
	v := vocabulary(t, x, example)
	for _, y := range []struct {
		w    api.Want
		want string
	}{{api.Want{}, "the0 lily0 rose0 arose0 "}, {api.Want{Kinds: "n"}, "lily0 rose0 "}, {api.Want{Signs: "x/"}, "arose0 "}, {api.Want{Signs: "x"}, "the0 rose0 "}, {api.Want{Syllables: 2}, "lily0 arose0 "}, {api.Want{Rhymes: "oz"}, "rose0 arose0 "}, {api.Want{Kinds: "nn"}, ""}, {api.Want{Begins: "R"}, "rose0 "}} {
		if got := words(v.Select(y.w)); got != y.want {
			t.Errorf("Select(%v): %s", y.w, got)
		}
	}
	if f, y, e := v.Draw(api.Want{Kinds: "n"}, 0); f.Entry.Word != "rose" || y != 1442695040888963407 || e != api.OK {
		t.Error("Draw", f, y, e)
	}
	c := v.Copy()
	v.Remove("rose")
	c.Add(api.Entry{Word: "nose", Kinds: "n", Weight: 1})
	if v.Len() != 3 || c.Len() != 5 {
		t.Error("Copy", v.Len(), c.Len())
	}
	x.Remove("lily")
	x.Add("nose", api.Spoken{Phones: []api.Phone{{Rune: 'a'}}, Stress: []int{0}})
	if len(c.Forms("lily")) != 1 || len(c.Forms("nose")) != 1 {
		t.Error("forms have changed")
	}
	for e := range c.All() {
		c.Remove(e.Word)
	}
	if c.Len() != 0 {
		t.Error("All while it is changed")
	}
	for range v.All() {
		break
	}
	for range v.Select(api.Want{}) {
		break
	}
	v.Add(api.Entry{Word: "rose", Kinds: "n", Weight: 1}, api.Entry{Word: "nose", Kinds: "n", Weight: 1})
	for range v.Rhymes("rose") {
		break
	}
}
