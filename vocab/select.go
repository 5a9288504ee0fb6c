package vocab

import (
	"iter"
	"slices"
	"strings"

	"canticle/api"
	"canticle/fold"
)

// may tells whether something may be wanted.
func may(w api.Want) bool {
	for k := range len(w.Signs) {
		switch w.Signs[k] {
		case '/', 'x', '?':
		default:
			return false
		}
	}
	return isRow(w.Kinds) && len(w.Signs) <= api.MaxSyllables && w.Syllables >= 0 && w.Syllables <= api.MaxSyllables
}

// asks are what is asked of an item's form, a closure for each thing that is wanted.
func asks(w api.Want) []func(x *item, form int) bool {
	var l []func(x *item, form int) bool
	add := func(wanted bool, ask func(x *item, form int) bool) {
		if wanted {
			l = append(l, ask)
		}
	}
	head := fold.Fold(w.Begins)
	add(w.Kinds != "", func(x *item, form int) bool { return shares(x.Kinds, w.Kinds) })
	add(w.Begins != "", func(x *item, form int) bool { return strings.HasPrefix(x.key, head) })
	add(w.Syllables > 0, func(x *item, form int) bool { return len(x.forms[form].Syllables) == w.Syllables })
	add(w.Rhymes != "", func(x *item, form int) bool { return x.rhymes[form] == w.Rhymes })
	add(w.Signs != "", func(x *item, form int) bool { return signed(x.forms[form].Syllables, w.Signs) })
	return l
}

// shares tells whether two rows of kinds share one.
func shares(a, b string) bool {
	for k := range len(a) {
		if strings.IndexByte(b, a[k]) >= 0 {
			return true
		}
	}
	return false
}

// signed tells whether syllables are as signs say.
func signed(l []api.Syllable, signs string) bool {
	if len(l) != len(signs) {
		return false
	}
	for k, s := range l {
		stressed := s.Stress != api.StressNone
		if signs[k] == '/' && !stressed || signs[k] == 'x' && stressed && len(l) > 1 {
			return false
		}
	}
	return true
}

// found is an item, and its form that fits.
type found struct {
	*item
	form int
}

// heavier is the order of what is found: what weighs more ahead. All come in the order of entries.
func heavier(x, y found) int { return y.Weight - x.Weight }

// selected are the items that have a form that fits, so ordered that what weighs more stands ahead.
func (v *Vocab) selected(fits func(x *item, form int) bool) []found {
	var l []found
	for _, x := range v.list {
		for k := range x.forms {
			if fits(x, k) {
				l = append(l, found{x, k})
				break
			}
		}
	}
	slices.SortStableFunc(l, heavier)
	return l
}

// wanted is what is found of what is wanted; nothing, if that may not be.
func (v *Vocab) wanted(w api.Want) []found {
	if v == nil || !may(w) {
		return nil
	}
	all := asks(w)
	return v.selected(func(x *item, form int) bool {
		for _, ask := range all {
			if !ask(x, form) {
				return false
			}
		}
		return true
	})
}

// Select goes over what is wanted.
func (v *Vocab) Select(w api.Want) iter.Seq[api.Found] {
	return func(yield func(api.Found) bool) {
		for _, f := range v.wanted(w) {
			if !yield(api.Found{Entry: f.Entry, Form: f.form}) {
				return
			}
		}
	}
}

// Rhymes goes over what rhymes with a word.
func (v *Vocab) Rhymes(word string) iter.Seq[api.Entry] {
	return func(yield func(api.Entry) bool) {
		own, ok := v.get(word)
		if !ok {
			return
		}
		for _, f := range v.selected(func(x *item, form int) bool {
			return x.key != own.key && slices.Contains(own.rhymes, x.rhymes[form])
		}) {
			if !yield(f.Entry) {
				return
			}
		}
	}
}

// Draw draws one of what is wanted.
func (v *Vocab) Draw(w api.Want, x uint64) (api.Found, uint64, api.Errno) {
	switch {
	case v == nil:
		return api.Found{}, 0, api.ErrNil
	case !may(w):
		return api.Found{}, 0, api.ErrArg
	}
	all := 0
	for f := range v.Select(w) {
		all += f.Entry.Weight
	}
	if all == 0 {
		return api.Found{}, 0, api.ErrNone
	}
	y := x*6364136223846793005 + 1442695040888963407
	n := int((y >> 33) % uint64(all))
	for f := range v.Select(w) {
		if n -= f.Entry.Weight; n < 0 {
			return f, y, api.OK
		}
	}
	return api.Found{}, 0, api.ErrNone
}
