package witness

import (
	"iter"
	"math/bits"
	"slices"
	"strings"

	"canticle/api"
)

// tree is a witness, or a joint of two trees.
type tree interface {
	least() int // the least number of a witness in it
}

type leaf struct {
	witness int
}

type joint struct {
	a, b tree
}

func (l leaf) least() int { return l.witness }

func (j joint) least() int { return min(j.a.least(), j.b.least()) }

// ordered is a tree of which each joint has the side with the least witness first.
func ordered(t tree) tree {
	switch x := t.(type) {
	case joint:
		a, b := ordered(x.a), ordered(x.b)
		if b.least() < a.least() {
			a, b = b, a
		}
		return joint{a, b}
	}
	return t
}

// print is a tree's text, its witnesses by their names.
func print(t tree, name func(witness int) string) string {
	switch x := t.(type) {
	case leaf:
		return name(x.witness)
	case joint:
		return "(" + print(x.a, name) + "," + print(x.b, name) + ")"
	}
	return ""
}

// name is a witness's name.
func (t *Table) name(witness int) string { return t.names[witness] }

// figure is its figure.
func figure(witness int) string { return string(rune('0' + witness)) }

// trees goes over all trees of a set of witnesses, each ordered.
func trees(set uint) iter.Seq[tree] {
	return func(yield func(tree) bool) {
		first := set & -set
		if set == first {
			yield(leaf{bits.TrailingZeros(set)})
			return
		}
		var parts func(side, left uint) bool
		// The first side has the first witness, and of those that are left any but all.
		parts = func(side, left uint) bool {
			if left != 0 {
				one := left & -left
				return parts(side|one, left^one) && parts(side, left^one)
			}
			if side == set {
				return true
			}
			for a := range trees(side) {
				for b := range trees(set ^ side) {
					if !yield(joint{a, b}) {
						return false
					}
				}
			}
			return true
		}
		parts(first, set^first)
	}
}

// told is a tree that is told, with its figures.
type told struct {
	tree    tree
	figures string
}

// all are the trees that are told, in order.
func (t *Table) all() []told {
	if t == nil {
		return nil
	}
	n := len(t.names)
	if n == 1 {
		return []told{{leaf{0}, "0"}}
	}
	var l []told
	for rest := range trees(1<<n - 2) {
		x := joint{leaf{0}, rest}
		l = append(l, told{x, print(x, figure)})
	}
	slices.SortFunc(l, func(a, b told) int { return strings.Compare(a.figures, b.figures) })
	return l
}

// Trees: P29.4.
func (t *Table) Trees() iter.Seq[string] {
	return func(yield func(string) bool) {
		for _, x := range t.all() {
			if !yield(print(x.tree, t.name)) {
				return
			}
		}
	}
}

// read reads a tree. What is open is kept in a list: of each joint its first side, as soon as it is read.
func (t *Table) read(text string) (tree, api.Spot) {
	var open []tree
	var done tree
	at, stood := 0, 0
want:
	bad := api.Spot{Err: api.ErrTree, At: at}
	if at < len(text) && text[at] == '(' {
		open = append(open, nil)
		at++
		goto want
	}
	n, _ := row(text[at:])
	witness := slices.Index(t.names, text[at:at+n])
	if witness < 0 || stood&(1<<witness) != 0 {
		return nil, bad
	}
	stood |= 1 << witness
	at += n
	done = leaf{witness}
	for len(open) > 0 {
		last := len(open) - 1
		sign := byte(')')
		if open[last] == nil {
			sign = ','
		}
		if at == len(text) || text[at] != sign {
			return nil, api.Spot{Err: api.ErrTree, At: at}
		}
		at++
		if sign == ',' {
			open[last] = done
			goto want
		}
		done = joint{open[last], done}
		open = open[:last]
	}
	if at < len(text) || stood != 1<<len(t.names)-1 {
		return nil, api.Spot{Err: api.ErrTree, At: at}
	}
	return done, api.Spot{}
}

// hung is a tree with the same partings of which one side of the uppermost joint is the witness 0 alone.
func hung(t tree) tree {
	x, ok := ordered(t).(joint)
	for ok {
		// The first side has the witness 0: what stands beside that in it goes over to the other side.
		y, inner := x.a.(joint)
		if !inner {
			return ordered(x)
		}
		x = joint{y.a, joint{y.b, x.b}}
	}
	return t
}

// Tree: P29.4.
func (t *Table) Tree(text string) (string, api.Spot) {
	if t == nil {
		return "", api.Spot{Err: api.ErrNil}
	}
	x, bad := t.read(text)
	if bad.Err != api.OK {
		return "", bad
	}
	return print(hung(x), t.name), api.Spot{}
}

// fewest are the readings that the uppermost joint may have with the fewest changes in a column, as the bits of a number, and how many these changes are.
func fewest(t tree, c column) (uint, int) {
	switch x := t.(type) {
	case leaf:
		return 1 << c.reading(x.witness), 0
	case joint:
		a, n := fewest(x.a, c)
		b, m := fewest(x.b, c)
		if a&b != 0 {
			return a & b, n + m
		}
		return a | b, n + m + 1
	}
	return 0, 0
}

// group is a column, and how many columns have the same readings.
type group struct {
	column column
	times  int
}

// groups are the columns, those with the same readings together.
func (t *Table) groups() []group {
	var l []group
	places := map[[api.MaxWitness]int]int{}
	for _, c := range t.columns {
		var readings [api.MaxWitness]int
		for n := range c {
			readings[n] = c.reading(n)
		}
		k, had := places[readings]
		if !had {
			k = len(l)
			places[readings] = k
			l = append(l, group{column: c})
		}
		l[k].times++
	}
	return l
}

// changes are a tree's changes in columns.
func changes(x tree, l []group) int {
	sum := 0
	for _, g := range l {
		_, n := fewest(x, g.column)
		sum += n * g.times
	}
	return sum
}

// Changes: P29.5.
func (t *Table) Changes(tree string) (int, api.Spot) {
	if t == nil {
		return 0, api.Spot{Err: api.ErrNil}
	}
	x, bad := t.read(tree)
	if bad.Err != api.OK {
		return 0, bad
	}
	return changes(x, t.groups()), api.Spot{}
}

// Root: P29.5.
func (t *Table) Root(tree string) ([]int, api.Spot) {
	if t == nil {
		return nil, api.Spot{Err: api.ErrNil}
	}
	x, bad := t.read(tree)
	if bad.Err != api.OK {
		return nil, bad
	}
	var l []int
	for _, c := range t.columns {
		set, _ := fewest(x, c)
		l = append(l, bits.TrailingZeros(set))
	}
	return l, api.Spot{}
}

// best is the first of the trees with the fewest changes, these, and how many such trees there are.
func (t *Table) best() (first told, least, ties int) {
	if t == nil {
		return told{}, 0, 0
	}
	columns := t.groups()
	for _, x := range t.all() {
		n := changes(x.tree, columns)
		if ties == 0 || n < least {
			first, least, ties = x, n, 0
		}
		if n == least {
			ties++
		}
	}
	return first, least, ties
}

// Best: P29.6.
func (t *Table) Best() (string, int) {
	first, n, ties := t.best()
	if ties == 0 {
		return "", 0
	}
	return print(first.tree, t.name), n
}

// Ties: P29.6.
func (t *Table) Ties() int {
	_, _, ties := t.best()
	return ties
}
