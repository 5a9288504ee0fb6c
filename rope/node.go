package rope

import (
	"iter"

	"canticle/api"
)

// node is what a rope hangs together by: a leaf, or a joint of two.
type node interface {
	told() *sum
}

// leaf is a part.
type leaf struct {
	text string
	sum  sum
}

// joint holds two.
type joint struct {
	a, b  node
	depth int
	sum   sum
}

func (l *leaf) told() *sum { return &l.sum }

func (j *joint) told() *sum { return &j.sum }

func newLeaf(s string) *leaf { return &leaf{text: s, sum: sumOf(s)} }

func depth(n node) int {
	switch x := n.(type) {
	case *joint:
		return x.depth
	}
	return 0
}

func hang(a, b node) *joint {
	return &joint{a: a, b: b, depth: max(depth(a), depth(b)) + 1, sum: a.told().with(*b.told())}
}

// build cuts a text that is not empty into leaves, and hangs them together in balance.
func build(s string) node {
	if len(s) <= api.MaxLeaf {
		return newLeaf(s)
	}
	leaves := (len(s) + api.MaxLeaf - 1) / api.MaxLeaf
	at := leaves / 2 * api.MaxLeaf
	return hang(build(s[:at]), build(s[at:]))
}

// join hangs two together, either of which may be nil; neither side of a joint is deeper by more than one.
func join(a, b node) node {
	switch {
	case a == nil:
		return b
	case b == nil:
		return a
	}
	if x, ok := b.(*leaf); ok && len(x.text)+len(last(a)) <= api.MaxLeaf {
		return behind(a, x.text)
	}
	if x, ok := a.(*leaf); ok && len(x.text)+len(first(b)) <= api.MaxLeaf {
		return ahead(b, x.text)
	}
	switch x := a.(type) {
	case *joint:
		if x.depth > depth(b)+1 {
			return level(x.a, join(x.b, b))
		}
	}
	switch y := b.(type) {
	case *joint:
		if y.depth > depth(a)+1 {
			return level(join(a, y.a), y.b)
		}
	}
	return hang(a, b)
}

// level hangs two together of which one may be deeper by two.
func level(a, b node) node {
	switch x := a.(type) {
	case *joint:
		if x.depth > depth(b)+1 {
			if y, ok := x.b.(*joint); ok && y.depth > depth(x.a) {
				return hang(hang(x.a, y.a), hang(y.b, b))
			}
			return hang(x.a, hang(x.b, b))
		}
	}
	switch y := b.(type) {
	case *joint:
		if y.depth > depth(a)+1 {
			if x, ok := y.a.(*joint); ok && x.depth > depth(y.b) {
				return hang(hang(a, x.a), hang(x.b, y.b))
			}
			return hang(hang(a, y.a), y.b)
		}
	}
	return hang(a, b)
}

// first and last are the texts of the leaves at both ends.
func first(n node) string {
	for {
		switch x := n.(type) {
		case *joint:
			n = x.a
		case *leaf:
			return x.text
		}
	}
}

func last(n node) string {
	for {
		switch x := n.(type) {
		case *joint:
			n = x.b
		case *leaf:
			return x.text
		}
	}
}

// behind lays a text to the last leaf, ahead to the first one.
func behind(n node, s string) node {
	switch x := n.(type) {
	case *joint:
		return hang(x.a, behind(x.b, s))
	case *leaf:
		return newLeaf(x.text + s)
	}
	return nil
}

func ahead(n node, s string) node {
	switch x := n.(type) {
	case *joint:
		return hang(ahead(x.a, s), x.b)
	case *leaf:
		return newLeaf(s + x.text)
	}
	return nil
}

// cut parts what hangs together at a place; what has no bytes is nil.
func cut(n node, at int) (node, node) {
	switch x := n.(type) {
	case *leaf:
		switch at {
		case 0:
			return nil, n
		case len(x.text):
			return n, nil
		}
		return newLeaf(x.text[:at]), newLeaf(x.text[at:])
	case *joint:
		if own := x.a.told().bytes; at <= own {
			a, b := cut(x.a, at)
			return a, join(b, x.b)
		} else {
			a, b := cut(x.b, at-own)
			return join(x.a, a), b
		}
	}
	return nil, nil
}

// parts goes over the texts of all leaves.
func parts(n node) iter.Seq[string] {
	return func(yield func(string) bool) {
		switch x := n.(type) {
		case *leaf:
			yield(x.text)
		case *joint:
			for s := range parts(x.a) {
				if !yield(s) {
					return
				}
			}
			for s := range parts(x.b) {
				if !yield(s) {
					return
				}
			}
		}
	}
}

// partsBack goes over them from the last one back.
func partsBack(n node) iter.Seq[string] {
	return func(yield func(string) bool) {
		switch x := n.(type) {
		case *leaf:
			yield(x.text)
		case *joint:
			for s := range partsBack(x.b) {
				if !yield(s) {
					return
				}
			}
			for s := range partsBack(x.a) {
				if !yield(s) {
					return
				}
			}
		}
	}
}

// bytes adds the bytes from one place to another one.
func bytes(out []byte, n node, from, to int) []byte {
	switch x := n.(type) {
	case *leaf:
		if from, to = max(from, 0), min(to, len(x.text)); from < to {
			out = append(out, x.text[from:to]...)
		}
	case *joint:
		own := x.a.told().bytes
		if from < own {
			out = bytes(out, x.a, from, to)
		}
		if to > own {
			out = bytes(out, x.b, from-own, to-own)
		}
	}
	return out
}

// upTo is the sum of the bytes ahead of a place.
func upTo(n node, at int) sum {
	switch x := n.(type) {
	case *leaf:
		if at < len(x.text) {
			return sumOf(x.text[:at])
		}
		return x.sum
	case *joint:
		if own := x.a.told().bytes; at <= own {
			return upTo(x.a, at)
		} else {
			return x.a.told().with(upTo(x.b, at-own))
		}
	}
	return sum{}
}
