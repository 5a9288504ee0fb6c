package scheme

import (
	"iter"
	"slices"

	"canticle/api"
)

// counts are how many plain schemes go on in how many ways: by how many lines there are left, and by how many classes there are by then; as far as both together are at most all classes.
type counts [api.Classes + 1][api.Classes + 1]int

func reckon() counts {
	var c counts
	for k := range c[0] {
		c[0][k] = 1
	}
	for left := 1; left <= api.Classes; left++ {
		for k := range api.Classes - left + 1 {
			c[left][k] = k*c[left-1][k] + c[left-1][k+1]
		}
	}
	return c
}

// Count: P16.7.
func Count(n int) (int, api.Errno) {
	if n < 0 || n > api.Classes {
		return 0, api.ErrArg
	}
	return reckon()[n][0], api.OK
}

// All: P16.7.
func All(n int) iter.Seq[api.Scheme] {
	return func(yield func(api.Scheme) bool) {
		if n < 0 || n > api.Classes {
			return
		}
		lines := make([]api.Rhyme, n)
		var from func(k, classes int) bool
		from = func(k, classes int) bool {
			if k == n {
				return yield(plain(slices.Clone(lines)))
			}
			for c := range classes + 1 {
				lines[k].Class = c
				if !from(k+1, max(classes, c+1)) {
					return false
				}
			}
			return true
		}
		from(0, 0)
	}
}

// plain is the scheme of lines in one stanza.
func plain(lines []api.Rhyme) api.Scheme {
	if len(lines) == 0 {
		return api.Scheme{}
	}
	return api.Scheme{Lines: lines, Stanzas: []int{len(lines)}}
}

// isPlain tells whether a scheme is plain, and has no more lines than there are classes.
func isPlain(s api.Scheme) bool {
	if Check(s) != api.OK || len(s.Lines) > api.Classes || len(s.Stanzas) > 1 {
		return false
	}
	classes := 0
	for _, l := range s.Lines {
		if l.Class < 0 || l.Refrain > 0 || l.Class > classes {
			return false
		}
		classes = max(classes, l.Class+1)
	}
	return true
}

// Rank: P16.7.
func Rank(s api.Scheme) (int, api.Errno) {
	if !isPlain(s) {
		return 0, api.ErrArg
	}
	all := reckon()
	n, classes := 0, 0
	for k, l := range s.Lines {
		n += l.Class * all[len(s.Lines)-1-k][classes]
		classes = max(classes, l.Class+1)
	}
	return n, api.OK
}

// Unrank: P16.7.
func Unrank(n, k int) (api.Scheme, api.Errno) {
	count, e := Count(n)
	if e != api.OK || k < 0 || k >= count {
		return api.Scheme{}, api.ErrArg
	}
	all := reckon()
	lines := make([]api.Rhyme, n)
	classes := 0
	for i := range lines {
		each := all[n-1-i][classes]
		c := min(k/each, classes)
		k -= c * each
		lines[i].Class = c
		classes = max(classes, c+1)
	}
	return plain(lines), api.OK
}
