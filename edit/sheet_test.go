package edit_test

import (
	"slices"
	"strings"
	"testing"

	"canticle/api"
	"canticle/edit"
)

// model is a sheet as the chapter says it.
type model struct {
	texts   []string
	changes [][]api.Step
	hands   []int
	left    []bool
}

// carried is a hand's change, carried over those behind a revision.
func (m *model) carried(t *testing.T, hand, rev int, c []api.Step) []api.Step {
	t.Helper()
	c, _ = edit.Plain(c)
	for k := rev; k < len(m.changes); k++ {
		var e api.Errno
		if m.hands[k] <= hand {
			_, c, e = edit.Carry(m.changes[k], c)
		} else {
			c, _, e = edit.Carry(c, m.changes[k])
		}
		if e != api.OK {
			t.Fatal(e)
		}
	}
	return c
}

func (m *model) write(t *testing.T, hand int, c []api.Step, left bool) {
	t.Helper()
	m.texts = append(m.texts, apply(t, m.texts[len(m.texts)-1], c))
	m.changes, m.hands, m.left = append(m.changes, c), append(m.hands, hand), append(m.left, left)
}

// P27.8, P27.9, P27.13
func TestSheet(t *testing.T) {
	c := chance(6)
	for range 800 {
		text := c.text(8)
		s, e := edit.New(text)
		if e != api.OK {
			t.Fatal(e)
		}
		m := &model{texts: []string{text}}
		for range c.less(10) {
			hand, rev := c.less(4), c.less(len(m.texts))
			if c.less(3) == 0 {
				k := len(m.changes) - 1
				for k >= 0 && (m.hands[k] != hand || !m.left[k]) {
					k--
				}
				got, e := s.Undo(hand)
				if k < 0 {
					if e != api.ErrNone || len(got) > 0 {
						t.Fatal("Undo", e)
					}
					continue
				}
				back, _ := edit.Invert(m.changes[k])
				want := m.carried(t, hand, k+1, back)
				if e != api.OK || !slices.Equal(got, want) {
					t.Fatalf("Undo(%d): %v, %v, want %v", hand, got, e, want)
				}
				m.left[k] = false
				m.write(t, hand, want, false)
				if k == len(m.changes)-2 && m.texts[len(m.texts)-1] != m.texts[k] {
					t.Fatalf("undone at once: %q, want %q", m.texts[len(m.texts)-1], m.texts[k])
				}
			} else {
				l := c.change(m.texts[rev])
				want := m.carried(t, hand, rev, l)
				got, e := s.Send(hand, rev, l)
				if e != api.OK || !slices.Equal(got, want) {
					t.Fatalf("Send(%d, %d, %v): %v, %v, want %v", hand, rev, l, got, e, want)
				}
				m.write(t, hand, want, true)
				if len(got) > 0 {
					got[0] = api.Step{}
				}
			}
		}
		asked(t, &c, s, m)
	}
}

func asked(t *testing.T, c *chance, s *edit.Sheet, m *model) {
	t.Helper()
	n := len(m.changes)
	if s.Revision() != n {
		t.Fatal("Revision", s.Revision())
	}
	for rev := -1; rev <= n+1; rev++ {
		text, e := s.At(rev)
		all, f := s.Since(rev)
		hand, g := s.Hand(rev)
		if wrong := rev < 1 || rev > n; wrong != (g == api.ErrRange) || !wrong && (g != api.OK || hand != m.hands[rev-1]) || wrong && hand != 0 {
			t.Fatalf("Hand(%d): %d, %v", rev, hand, g)
		}
		if rev < 0 || rev > n {
			_, h := s.Follow(0, rev, true)
			if e != api.ErrRange || f != api.ErrRange || h != api.ErrRange || text != "" || len(all) > 0 {
				t.Fatalf("the revision %d: %v, %v, %v", rev, e, f, h)
			}
			continue
		}
		if e != api.OK || f != api.OK || text != m.texts[rev] || apply(t, text, all) != m.texts[n] {
			t.Fatalf("the revision %d: %q, %v", rev, text, all)
		}
		want, _ := edit.Plain([]api.Step{keep(max(len(text), 1))})
		if text == "" {
			want = nil
		}
		for _, x := range m.changes[rev:] {
			want, _ = edit.Compose(want, x)
		}
		if !slices.Equal(all, want) {
			t.Fatalf("Since(%d): %v, want %v", rev, all, want)
		}
		for at := -1; at <= len(text)+1; at++ {
			behind := c.less(2) == 0
			got, e := s.Follow(at, rev, behind)
			if at < 0 || at > len(text) {
				if got != 0 || e != api.ErrRange {
					t.Fatalf("Follow(%d, %d): %d, %v", at, rev, got, e)
				}
				continue
			}
			k := at
			for _, x := range m.changes[rev:] {
				k, _ = edit.Move(x, k, behind)
			}
			if got != k || e != api.OK {
				t.Fatalf("Follow(%d, %d): %d, %v, want %d", at, rev, got, e, k)
			}
		}
	}
}

// P27.13: in whatever order.
func TestOrders(t *testing.T) {
	c := chance(7)
	for range 500 {
		text := c.text(6)
		var l [][]api.Step
		for range 4 {
			x := c.change(text)
			for k, s := range x {
				if s.Drop != "" {
					x[k] = keep(len(s.Drop))
				}
			}
			l = append(l, x)
		}
		want := ""
		for k, order := range [][]int{{0, 1, 2, 3}, {3, 2, 1, 0}, {2, 0, 3, 1}, {1, 3, 0, 2}} {
			s, _ := edit.New(text)
			for _, hand := range order {
				if _, e := s.Send(hand, 0, l[hand]); e != api.OK {
					t.Fatal(e)
				}
			}
			got, _ := s.At(4)
			if k == 0 {
				want = got
			}
			if got != want {
				t.Fatalf("%q by %v: %q, want %q", text, order, got, want)
			}
		}
	}
}

// P27.8: what is refused, and limits.
func TestSheetRefused(t *testing.T) {
	long := strings.Repeat("x", api.MaxText)
	if s, e := edit.New(long + "x"); s != nil || e != api.ErrLong {
		t.Error("New", e)
	}
	s, _ := edit.New("abc")
	for k, x := range []struct {
		hand, rev int
		c         []api.Step
		want      api.Errno
	}{{-1, 9, nil, api.ErrArg}, {0, 9, []api.Step{{}}, api.ErrArg}, {0, 1, nil, api.ErrRange}, {0, -1, nil, api.ErrRange}, {0, 0, []api.Step{keep(2)}, api.ErrRange}, {0, 0, []api.Step{drop("x"), keep(2)}, api.ErrApart}} {
		if l, e := s.Send(x.hand, x.rev, x.c); e != x.want || len(l) > 0 || s.Revision() != 0 {
			t.Errorf("%d: Send: %v, want %v", k, e, x.want)
		}
	}
	if _, e := s.Undo(-1); e != api.ErrArg {
		t.Error("Undo", e)
	}
	if _, e := s.Undo(1); e != api.ErrNone {
		t.Error("Undo", e)
	}
	for k := range api.MaxSends {
		if _, e := s.Send(k%3, k, []api.Step{keep(3)}); e != api.OK {
			t.Fatal(e)
		}
	}
	if l, e := s.Send(0, 0, []api.Step{keep(3)}); e != api.ErrLong || len(l) > 0 || s.Revision() != api.MaxSends {
		t.Error("one more", e)
	}
	if l, e := s.Send(0, 0, []api.Step{keep(2)}); e != api.ErrRange || len(l) > 0 {
		t.Error("one more that does not fit", e)
	}
	if l, e := s.Undo(0); e != api.ErrLong || len(l) > 0 {
		t.Error("one more undone", e)
	}
	if _, e := s.Undo(5); e != api.ErrNone {
		t.Error("none undone", e)
	}
	s, _ = edit.New("")
	half := []api.Step{put(long[:api.MaxText/2+1])}
	s.Send(1, 0, half)
	if l, e := s.Send(2, 0, half); e != api.ErrLong || len(l) > 0 || s.Revision() != 1 {
		t.Error("too long together", e)
	}
	s.Send(2, 1, []api.Step{drop(long[:api.MaxText/2+1])})
	s.Send(1, 2, []api.Step{put(long)})
	if l, e := s.Undo(2); e != api.ErrLong || len(l) > 0 || s.Revision() != 3 {
		t.Error("too long undone", e)
	}
	if l, e := s.Undo(1); e != api.OK || len(l) != 1 {
		t.Error("undone", e)
	}
	if l, e := s.Undo(2); e != api.ErrLong || len(l) > 0 || s.Revision() != 4 {
		t.Error("too long on the way", e)
	}
	var none *edit.Sheet
	_, a := none.Send(-1, 0, nil)
	_, b := none.Undo(-1)
	_, c := none.At(-1)
	_, d := none.Hand(-1)
	_, e := none.Since(-1)
	_, f := none.Follow(-1, -1, true)
	for k, e := range []api.Errno{a, b, c, d, e, f} {
		if e != api.ErrNil {
			t.Error(k, e)
		}
	}
	if none.Revision() != 0 {
		t.Error("Revision of nil")
	}
}

// The examples of the chapter.
func TestExamples(t *testing.T) {
	step := func(s string) []api.Step {
		l, bad := edit.Read(s)
		if bad.Err != api.OK {
			t.Fatal(s, bad)
		}
		return l
	}
	show := func(l []api.Step, e api.Errno) string {
		s, f := edit.Print(l)
		if e != api.OK || f != api.OK {
			t.Fatal(l, e, f)
		}
		return s
	}
	if got := apply(t, "abc", step(`=1 -"b" +"xy" =1`)); got != "axyc" {
		t.Error(got)
	}
	if got := show(edit.Plain(step(`=1 =1 -"c" +"x" +"y"`))); got != `=2 +"xy" -"c"` {
		t.Error(got)
	}
	if got := show(edit.Compose(step(`=1 +"x" =2`), step(`=1 -"x" +"y" =2`))); got != `=1 +"y" =2` {
		t.Error(got)
	}
	if got := show(edit.Invert(step(`=1 +"x" -"b" =1`))); got != `=1 +"b" -"x" =1` {
		t.Error(got)
	}
	a, b, e := edit.Carry(step(`=1 +"x" =2`), step(`=1 +"y" -"b" =1`))
	if show(a, e) != `=1 +"x" =2` || show(b, e) != `=2 +"y" -"b" =1` {
		t.Error(a, b)
	}
	if got := show(edit.Between("a\u00e9b", "a\u00e8b")); got != `=1 +"\{e8}" -"\{e9}" =1` {
		t.Error(got)
	}
	if got := show(edit.Whole("\u00e9", []api.Step{keep(1), drop("\xa9"), put("\xa8")})); got != `+"\{e8}" -"\{e9}"` {
		t.Error(got)
	}
	s, _ := edit.New("abc")
	x := show(s.Send(2, 0, step(`=1 +"x" =2`)))
	y := show(s.Send(1, 0, step(`=1 +"y" =2`)))
	z := show(s.Undo(2))
	text, _ := s.At(3)
	if x != `=1 +"x" =2` || y != `=1 +"y" =3` || z != `=2 -"x" =2` || text != "aybc" {
		t.Error(x, y, z, text)
	}
}
