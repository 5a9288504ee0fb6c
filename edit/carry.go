package edit

import (
	"canticle/api"
)

// cursor goes through a change, which is in the one form.
type cursor struct {
	steps []api.Step
	used  int // bytes of the first step
}

// kind is what the step does at which the cursor is; isNone behind the last one.
func (c *cursor) kind() int {
	if len(c.steps) == 0 {
		return isNone
	}
	return kind(c.steps[0])
}

// left is how many bytes of the step are left.
func (c *cursor) left() int {
	if len(c.steps) == 0 {
		return 0
	}
	s := c.steps[0]
	return s.Keep + len(s.Drop) + len(s.Put) - c.used
}

// take takes bytes of the step; what is kept has none that could be told.
func (c *cursor) take(n int) string {
	s := c.steps[0]
	from := c.used
	c.used += n
	if c.left() == 0 {
		c.steps, c.used = c.steps[1:], 0
	}
	switch kind(s) {
	case isDrop:
		return s.Drop[from : from+n]
	case isPut:
		return s.Put[from : from+n]
	}
	return ""
}

// Compose lays two changes one behind the other.
func Compose(a, b []api.Step) ([]api.Step, api.Errno) {
	if !may(a, b) {
		return nil, api.ErrArg
	}
	_, to, _ := Sizes(a)
	if from, _, _ := Sizes(b); from != to {
		return nil, api.ErrRange
	}
	x, y := cursor{steps: plain(a)}, cursor{steps: plain(b)}
	var m maker
steps:
	for {
		switch {
		case x.kind() == isDrop:
			m.drops(x.take(x.left()))
			continue steps
		case y.kind() == isPut:
			m.puts(y.take(y.left()))
			continue steps
		case x.kind() == isNone:
			break steps
		}
		n := min(x.left(), y.left())
		keeps, put := x.kind() == isKeep, y.kind() == isKeep
		p, q := x.take(n), y.take(n)
		switch {
		case keeps && put:
			m.keep(n)
		case keeps:
			m.drops(q)
		case put:
			m.puts(p)
		case p != q:
			return nil, api.ErrApart
		}
	}
	return m.end(), api.OK
}

// Carry carries two changes over each other.
func Carry(a, b []api.Step) ([]api.Step, []api.Step, api.Errno) {
	if !may(a, b) {
		return nil, nil, api.ErrArg
	}
	n, _, _ := Sizes(a)
	if from, _, _ := Sizes(b); from != n {
		return nil, nil, api.ErrRange
	}
	x, y := cursor{steps: plain(a)}, cursor{steps: plain(b)}
	var over, under maker // a over b, and b over a
	size := 0
places:
	for {
		switch {
		case x.kind() == isPut:
			s := x.take(x.left())
			over.puts(s)
			under.keep(len(s))
			size += len(s)
			continue places
		case y.kind() == isPut:
			s := y.take(y.left())
			over.keep(len(s))
			under.puts(s)
			size += len(s)
			continue places
		case x.kind() == isNone:
			break places
		}
		n := min(x.left(), y.left())
		aKeeps, bKeeps := x.kind() == isKeep, y.kind() == isKeep
		p, q := x.take(n), y.take(n)
		switch {
		case aKeeps && bKeeps:
			over.keep(n)
			under.keep(n)
			size += n
		case bKeeps:
			over.drops(p)
		case aKeeps:
			under.drops(q)
		case p != q:
			return nil, nil, api.ErrApart
		}
	}
	if size > api.MaxText {
		return nil, nil, api.ErrLong
	}
	return over.end(), under.end(), api.OK
}
