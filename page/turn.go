package page

import (
	"iter"

	"canticle/api"
	"canticle/cluster"
)

// May be: what a layout's numbers are at least and at most.
const (
	leastWidth  = 8
	leastHeight = 4
	mostTurn    = 7
)

func may(l api.Layout) bool {
	within := func(n, least, most int) bool { return n >= least && n <= most }
	return within(l.Width, leastWidth, api.MaxWidth) && within(l.Height, leastHeight, api.MaxHeight) && within(l.Turn, 0, mostTurn) && within(l.Every, 0, api.MaxLines)
}

// cell is a cluster of a text: where it ends, its columns, whether it is a space.
type cell struct {
	to, columns int
	space       bool
}

func cells(text string) []cell {
	var l []cell
	for c := range cluster.Each(text) {
		l = append(l, cell{c.Span.To, c.Columns, text[c.Span.From:c.Span.To] == " "})
	}
	return l
}

// begins is where the k-th cell begins.
func begins(l []cell, k int) int {
	if k == 0 {
		return 0
	}
	return l[k-1].to
}

// columns are those of a row of cells; the spaces at its end have none.
func columns(l []cell) int {
	all, n := 0, 0
	for _, c := range l {
		all += c.columns
		if !c.space {
			n = all
		}
	}
	return n
}

// best is the best way to part all that stands from a place on: what it costs, in how many parts, where the first one ends.
type best struct {
	cost, parts, to int
}

// parted finds the best way to part n things, of which some may stand together from each place on, up to each place that is told with what that costs, rising. Where several are as good that which ends the latest is taken.
func parted(n int, together func(from int) iter.Seq2[int, int]) []best {
	l := make([]best, n+1)
	for from := n - 1; from >= 0; from-- {
		x := best{to: -1}
		for to, cost := range together(from) {
			y := best{cost + l[to].cost, 1 + l[to].parts, to}
			if x.to < 0 || y.cost < x.cost || y.cost == x.cost && y.parts <= x.parts {
				x = y
			}
		}
		l[from] = x
	}
	return l
}

// ends are the ends of the parts that are taken, from the front.
func ends(l []best) []int {
	var out []int
	at := 0
parts:
	if at < len(l)-1 {
		at = l[at].to
		out = append(out, at)
		goto parts
	}
	return out
}

// room is how many columns a row has that begins with the k-th cell.
func room(k, indent int, l api.Layout) int {
	if k > 0 {
		return l.Width - l.Turn
	}
	return max(l.Width-indent, 1)
}

// rows goes over the rows that may begin with a cell: where each ends, and what it costs.
func rows(l []cell, from, room int) iter.Seq2[int, int] {
	return func(yield func(int, int) bool) {
		if from > 0 && l[from].space {
			return
		}
		all, n, alone := 0, 0, true
		for to := from + 1; to <= len(l); to++ {
			c := l[to-1]
			all += c.columns
			if !c.space {
				n = all
				alone = to == from+1
			}
			if n > room && !alone {
				return
			}
			if to < len(l) && l[to].space {
				continue
			}
			if !yield(to, rowCost(c, room-n, to == len(l))) {
				return
			}
		}
	}
}

// rowCost is what a row costs whose last cell is c, and whose room has so many columns more.
func rowCost(c cell, more int, last bool) int {
	if last {
		return 0
	}
	more = max(more, 0)
	if c.space {
		return more * more
	}
	return more*more + 1000
}

// Turn turns a line over.
func Turn(text string, indent int, l api.Layout) ([]string, int, api.Errno) {
	if !may(l) || indent < 0 || indent > api.MaxLine || len(text) > api.MaxLine {
		return nil, 0, api.ErrArg
	}
	all := cells(text)
	found := parted(len(all), func(from int) iter.Seq2[int, int] { return rows(all, from, room(from, indent, l)) })
	var out []string
	at := 0
	for _, k := range ends(found) {
		out = append(out, text[at:all[k-1].to])
		at = all[k-1].to
	}
	return out, found[0].cost, api.OK
}

// Cost is what it costs to turn a line over so.
func Cost(parts []string, indent int, l api.Layout) (int, api.Errno) {
	if !may(l) || indent < 0 || indent > api.MaxLine {
		return 0, api.ErrArg
	}
	var text []byte
	for _, s := range parts {
		if s == "" || len(text)+len(s) > api.MaxLine {
			return 0, api.ErrArg
		}
		text = append(text, s...)
	}
	all := cells(string(text))
	sum, at, from := 0, 0, 0
next:
	for _, s := range parts {
		at += len(s)
		for to, cost := range rows(all, from, room(from, indent, l)) {
			if begins(all, to) == at {
				sum, from = sum+cost, to
				continue next
			}
		}
		return 0, api.ErrArg
	}
	return sum, api.OK
}
