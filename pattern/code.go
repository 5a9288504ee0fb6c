package pattern

// op is what a step of the code does.
type op int

const (
	opTake  op = iota // takes a piece that its atom is
	opHold            // goes on, if its atom holds here
	opSave            // keeps the place in a slot
	opJump            // goes on at to
	opSplit           // goes on behind it, and if that comes to nothing, at to
	opStar            // likewise, and what follows is a new time of a part without an end of times
	opLoop            // goes back to its opStar, if that time has taken something
	opMatch
)

type step struct {
	op   op
	atom part
	slot int
	to   int
}

// code is a pattern's steps. All but opLoop lead onward.
type code struct {
	steps []step
	bits  []int // where each step's bits begin in a row; at last how many there are
}

// build turns a pattern into steps.
func build(tree [][]part) code {
	var c code
	c.tree(tree)
	c.add(step{op: opMatch})
	c.measure()
	return c
}

func (c *code) add(s step) int {
	c.steps = append(c.steps, s)
	return len(c.steps) - 1
}

// land lets the steps of these numbers lead to what is added next.
func (c *code) land(l []int) {
	for _, k := range l {
		c.steps[k].to = len(c.steps)
	}
}

func (c *code) tree(branches [][]part) {
	var ends []int
	branches = worth(branches)
	for k, b := range branches {
		split := -1
		if k+1 < len(branches) {
			split = c.add(step{op: opSplit})
		}
		for _, p := range b {
			c.part(p)
		}
		if split >= 0 {
			ends = append(ends, c.add(step{op: opJump}))
			c.land([]int{split})
		}
	}
	c.land(ends)
}

// worth leaves out branches that take nothing behind a first such one: their one way is that one's.
func worth(branches [][]part) [][]part {
	var l [][]part
	empty := false
	for _, b := range branches {
		nothing := true
		for _, p := range b {
			nothing = nothing && p.most == 0
		}
		if !nothing || !empty {
			l = append(l, b)
		}
		empty = empty || nothing
	}
	return l
}

// part adds a part, as often as it stands.
func (c *code) part(p part) {
	for range p.least {
		c.atom(p)
	}
	if p.most < 0 {
		star := c.add(step{op: opStar})
		c.atom(p)
		c.add(step{op: opLoop, to: star})
		c.land([]int{star})
		return
	}
	var ends []int
	for range p.most - p.least {
		ends = append(ends, c.add(step{op: opSplit}))
		c.atom(p)
	}
	c.land(ends)
}

func (c *code) atom(p part) {
	switch p.what {
	case isGroup:
		c.add(step{op: opSave, slot: 2*p.group - 2})
		c.tree(p.branches)
		c.add(step{op: opSave, slot: 2*p.group - 1})
	case isBegin, isEnd, isEdge:
		c.add(step{op: opHold, atom: p})
	default:
		c.add(step{op: opTake, atom: p})
	}
}

// measure finds for each step in how many states one may come to it. A state is how many of the innermost times that one is in have taken nothing yet: by that alone, and by the place, what comes of the step is settled.
func (c *code) measure() {
	states := make([]int, len(c.steps))
	reach := func(k, n int) { states[k] = max(states[k], n) }
	c.bits = make([]int, len(c.steps)+1)
	for k, s := range c.steps {
		n := states[k]
		c.bits[k+1] = c.bits[k] + n + 1
		switch s.op {
		case opHold, opSave:
			reach(k+1, n)
		case opJump:
			reach(s.to, n)
		case opSplit:
			reach(k+1, n)
			reach(s.to, n)
		case opStar:
			reach(k+1, n+1)
			reach(s.to, n)
		}
	}
}
