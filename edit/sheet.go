package edit

import (
	"slices"

	"canticle/api"
)

// last is the last text of a sheet.
type last struct {
	text string
}

// revision is what made one: whose change, and whether it is left to be undone; and the text ahead of it.
type revision struct {
	hand   int
	change []api.Step
	left   bool
	ahead  string
}

// Sheet is a text on which many hands write.
type Sheet struct {
	last
	revisions []revision
}

// New is a sheet.
func New(text string) (*Sheet, api.Errno) {
	if len(text) > api.MaxText {
		return nil, api.ErrLong
	}
	return &Sheet{last: last{text: text}}, api.OK
}

// over carries a change over those that made the revisions behind one; theirs tells whether one of theirs is first.
func (s *Sheet) over(c []api.Step, rev int, theirs func(hand int) bool) ([]api.Step, api.Errno) {
	c = plain(c)
	for _, r := range s.revisions[rev:] {
		var e api.Errno
		if theirs(r.hand) {
			_, c, e = Carry(r.change, c)
		} else {
			c, _, e = Carry(c, r.change)
		}
		if e != api.OK {
			return nil, e
		}
	}
	return c, api.OK
}

// write makes the next revision of a hand's change, which is carried over all that was made behind a revision.
func (s *Sheet) write(hand, rev int, c []api.Step, left bool) ([]api.Step, api.Errno) {
	if len(s.revisions) >= api.MaxSends {
		return nil, api.ErrLong
	}
	c, e := s.over(c, rev, func(other int) bool { return other <= hand })
	if e != api.OK {
		return nil, e
	}
	text, e := Apply(s.text, c)
	if e != api.OK {
		return nil, e
	}
	s.revisions = append(s.revisions, revision{hand: hand, change: c, left: left, ahead: s.text})
	s.text = text
	return slices.Clone(c), api.OK
}

// Send sends a hand's change.
func (s *Sheet) Send(hand, rev int, c []api.Step) ([]api.Step, api.Errno) {
	if s == nil {
		return nil, api.ErrNil
	}
	if hand < 0 || !may(c) {
		return nil, api.ErrArg
	}
	text, e := s.At(rev)
	if e == api.OK {
		_, e = Apply(text, c)
	}
	if e != api.OK {
		return nil, e
	}
	return s.write(hand, rev, c, true)
}

// Undo undoes a hand's last change.
func (s *Sheet) Undo(hand int) ([]api.Step, api.Errno) {
	if s == nil {
		return nil, api.ErrNil
	}
	if hand < 0 {
		return nil, api.ErrArg
	}
	for k := len(s.revisions) - 1; k >= 0; k-- {
		r := &s.revisions[k]
		if r.hand != hand || !r.left {
			continue
		}
		c, _ := Invert(r.change)
		c, e := s.write(hand, k+1, c, false)
		if e == api.OK {
			s.revisions[k].left = false
		}
		return c, e
	}
	return nil, api.ErrNone
}

// Revision is the last revision's number.
func (s *Sheet) Revision() int {
	if s == nil {
		return 0
	}
	return len(s.revisions)
}

// At is a revision's text.
func (s *Sheet) At(rev int) (string, api.Errno) {
	switch {
	case s == nil:
		return "", api.ErrNil
	case rev < 0 || rev > len(s.revisions):
		return "", api.ErrRange
	case rev == len(s.revisions):
		return s.text, api.OK
	}
	return s.revisions[rev].ahead, api.OK
}

// Hand is whose change made a revision.
func (s *Sheet) Hand(rev int) (int, api.Errno) {
	switch {
	case s == nil:
		return 0, api.ErrNil
	case rev < 1 || rev > len(s.revisions):
		return 0, api.ErrRange
	}
	return s.revisions[rev-1].hand, api.OK
}

// Since is all that was changed behind a revision.
func (s *Sheet) Since(rev int) ([]api.Step, api.Errno) {
	text, e := s.At(rev)
	if e != api.OK {
		return nil, e
	}
	all, _ := Between(text, text)
	for _, r := range s.revisions[rev:] {
		all, _ = Compose(all, r.change)
	}
	return all, api.OK
}

// Follow is where a place of a revision has gone.
func (s *Sheet) Follow(at, rev int, behind bool) (int, api.Errno) {
	text, e := s.At(rev)
	switch {
	case e != api.OK:
		return 0, e
	case at < 0 || at > len(text):
		return 0, api.ErrRange
	}
	for _, r := range s.revisions[rev:] {
		at, _ = Move(r.change, at, behind)
	}
	return at, api.OK
}
