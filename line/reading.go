package line

import (
	"iter"
	"slices"

	"canticle/api"
)

// opens tells whether a form begins open, and whether it ends open.
func opens(f api.Said) (ahead, behind bool) {
	first, last := f.Syllables[0], f.Syllables[len(f.Syllables)-1]
	return first.Nucleus == first.From, last.To == last.Nucleus+1
}

// light tells whether a form may be light.
func light(f api.Said) bool {
	return len(f.Syllables) == 1 && f.Syllables[0].Stress == api.StressMain
}

// choices goes over the choices for the word k, in order, where the word ahead runs into it or does not.
func (l *Line) choices(k int, runs bool) iter.Seq[api.Choice] {
	return func(yield func(api.Choice) bool) {
		w := l.words[k]
		for n, f := range w.forms {
			ahead, behind := opens(f)
			if runs && !ahead {
				continue
			}
			on := w.near && behind && l.ways[k+1][1] > 0
			for dim := range 1 + number(light(f)) {
				for run := range 1 + number(on) {
					if !yield(api.Choice{Form: n, Light: dim == 1, Run: run == 1}) {
						return
					}
				}
			}
		}
	}
}

// Each goes over all readings.
func (l *Line) Each() iter.Seq[api.Reading] {
	return func(yield func(api.Reading) bool) {
		if l == nil {
			return
		}
		r := make(api.Reading, len(l.words))
		var from func(k int, runs bool) bool
		from = func(k int, runs bool) bool {
			if k == len(l.words) {
				return yield(slices.Clone(r))
			}
			for c := range l.choices(k, runs) {
				r[k] = c
				if !from(k+1, c.Run) {
					return false
				}
			}
			return true
		}
		from(0, false)
	}
}

// Nth is a reading by its number.
func (l *Line) Nth(n int) (api.Reading, api.Errno) {
	if l == nil {
		return nil, api.ErrNil
	}
	if n < 0 || n >= l.Count() {
		return nil, api.ErrRange
	}
	var r api.Reading
	runs := false
words:
	for k := range l.words {
		for c := range l.choices(k, runs) {
			ways := l.ways[k+1][number(c.Run)]
			if n < ways {
				r = append(r, c)
				runs = c.Run
				continue words
			}
			n -= ways
		}
	}
	return r, api.OK
}

// Rank is a reading's number.
func (l *Line) Rank(r api.Reading) (int, api.Errno) {
	if l == nil {
		return 0, api.ErrNil
	}
	n, ok := l.rank(r)
	if !ok {
		return 0, api.ErrArg
	}
	return n, api.OK
}

// rank is how many readings stand ahead of one; false, if it is none.
func (l *Line) rank(r api.Reading) (int, bool) {
	if len(r) != len(l.words) {
		return 0, false
	}
	n, runs := 0, false
words:
	for k := range l.words {
		for c := range l.choices(k, runs) {
			if c == r[k] {
				runs = c.Run
				continue words
			}
			n = add(n, l.ways[k+1][number(c.Run)])
		}
		return 0, false
	}
	return n, true
}

// Beats are the beats of a reading.
func (l *Line) Beats(r api.Reading) ([]api.Beat, api.Errno) {
	if l == nil {
		return nil, api.ErrNil
	}
	if _, ok := l.rank(r); !ok {
		return nil, api.ErrArg
	}
	var out []api.Beat
	runs := false
	for k, c := range r {
		all := l.words[k].forms[c.Form].Syllables
		for in, s := range all {
			if c.Light {
				s.Stress = api.StressNone
			}
			ends := in == len(all)-1
			if in > 0 || !runs {
				out = append(out, api.Beat{Word: k, In: in, Parts: 1, Stress: s.Stress, Heavy: s.Heavy, Ends: ends})
				continue
			}
			b := &out[len(out)-1]
			b.Parts++
			b.Stress = max(b.Stress, s.Stress)
			b.Heavy, b.Ends = true, ends
		}
		runs = c.Run
	}
	return out, api.OK
}
