package draft

import (
	"slices"

	"canticle/api"
	"canticle/edit"
	"canticle/word"
)

// mostTokens is how many tokens on a side are matched, of those that are not alike from the front or from the end on.
const mostTokens = 1024

// tokens are the texts of a text's tokens.
func tokens(s string) []string {
	var l []string
	for t := range word.Scan(s) {
		l = append(l, s[t.Span.From:t.Span.To])
	}
	return l
}

// match is the match of two rows of tokens.
func match(a, b []string) [][2]int {
	var l [][2]int
	head := 0
	for head < len(a) && head < len(b) && a[head] == b[head] {
		l = append(l, [2]int{head, head})
		head++
	}
	tail := 0
	for tail < len(a)-head && tail < len(b)-head && a[len(a)-1-tail] == b[len(b)-1-tail] {
		tail++
	}
	x, y := a[head:len(a)-tail], b[head:len(b)-tail]
	if len(x) <= mostTokens && len(y) <= mostTokens {
		for _, p := range between(numbered(x, y)) {
			l = append(l, [2]int{p[0] + head, p[1] + head})
		}
	}
	for k := tail; k > 0; k-- {
		l = append(l, [2]int{len(a) - k, len(b) - k})
	}
	return l
}

// numbered are two rows of tokens as numbers, of which two are the same just if the tokens are.
func numbered(x, y []string) (a, b []int) {
	numbers := map[string]int{}
	number := func(t string) int {
		if _, is := numbers[t]; !is {
			numbers[t] = len(numbers)
		}
		return numbers[t]
	}
	for _, t := range x {
		a = append(a, number(t))
	}
	for _, t := range y {
		b = append(b, number(t))
	}
	return a, b
}

// between is the longest row of pairs, the first of all such.
func between(a, b []int) [][2]int {
	// How many pairs can be made of the tokens from each two places on.
	rows := make([][]int, len(a)+1)
	rows[len(a)] = make([]int, len(b)+1)
	for i := len(a) - 1; i >= 0; i-- {
		rows[i] = make([]int, len(b)+1)
		for j := len(b) - 1; j >= 0; j-- {
			rows[i][j] = max(rows[i+1][j], rows[i][j+1])
			if a[i] == b[j] {
				rows[i][j] = rows[i+1][j+1] + 1
			}
		}
	}
	var l [][2]int
	j := 0
	for i := range a {
		k := slices.Index(b[j:], a[i])
		if k < 0 || rows[i+1][j+k+1]+1 < rows[i][j] {
			continue
		}
		l = append(l, [2]int{i, j + k})
		j += k + 1
	}
	return l
}

// Match: P28.1.
func Match(a, b string) ([][2]int, api.Errno) {
	if len(a) > api.MaxText || len(b) > api.MaxText {
		return nil, api.ErrLong
	}
	return match(tokens(a), tokens(b)), api.OK
}

// Change: P28.1.
func Change(a, b string) ([]api.Step, api.Errno) {
	if len(a) > api.MaxText || len(b) > api.MaxText {
		return nil, api.ErrLong
	}
	x, y := tokens(a), tokens(b)
	var c []api.Step
	i, j := 0, 0
	change := func(p [2]int) {
		for ; j < p[1]; j++ {
			c = append(c, api.Step{Put: y[j]})
		}
		for ; i < p[0]; i++ {
			c = append(c, api.Step{Drop: x[i]})
		}
	}
	for _, p := range match(x, y) {
		change(p)
		c = append(c, api.Step{Keep: len(x[i])})
		i, j = i+1, j+1
	}
	change([2]int{len(x), len(y)})
	return edit.Plain(c)
}

// side is the text of some tokens.
func side(l []string) string {
	var out []byte
	for _, t := range l {
		out = append(out, t...)
	}
	return string(out)
}

// partners are the tokens with which those of a row are matched, by their numbers; -1: none is.
func partners(n int, l [][2]int) []int {
	with := slices.Repeat([]int{-1}, n)
	for _, p := range l {
		with[p[0]] = p[1]
	}
	return with
}

// Weave: P28.2.
func Weave(base, into, from string) (string, []api.Conflict, api.Errno) {
	if len(base) > api.MaxText || len(into) > api.MaxText || len(from) > api.MaxText {
		return "", nil, api.ErrLong
	}
	x, y, z := tokens(base), tokens(into), tokens(from)
	a, b := partners(len(x), match(x, y)), partners(len(x), match(x, z))
	var out []byte
	var conflicts []api.Conflict
	i, j, k := 0, 0, 0
sides:
	for n := 0; n <= len(x); n++ {
		toA, toB := len(y), len(z)
		if n < len(x) {
			toA, toB = a[n], b[n]
			if toA < 0 || toB < 0 {
				continue sides
			}
		}
		old, mine, theirs := side(x[i:n]), side(y[j:toA]), side(z[k:toB])
		own := mine
		if mine == old {
			own = theirs
		} else if theirs != old && theirs != mine {
			s := api.Span{From: len(out), To: len(out) + len(mine)}
			conflicts = append(conflicts, api.Conflict{Span: s, Base: old, Into: mine, From: theirs})
		}
		out = append(out, own...)
		if n < len(x) {
			out = append(out, x[n]...)
		}
		i, j, k = n+1, toA+1, toB+1
	}
	if len(out) > api.MaxText {
		return "", nil, api.ErrLong
	}
	return string(out), conflicts, api.OK
}
