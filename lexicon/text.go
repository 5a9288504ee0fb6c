package lexicon

import (
	"maps"
	"slices"
	"strings"

	"canticle/api"
	"canticle/phone"
	"canticle/rule"
)

// The signs of stress.
const (
	signMain   = "\u02c8"
	signSecond = "\u02cc"
)

const (
	isSign = " = " // parts a key from its value
	orSign = ", "  // parts ways to speak
)

// Print: P10.6.
func (l *Lexicon) Print() string {
	if l == nil {
		return ""
	}
	var out []byte
	for _, key := range slices.Sorted(maps.Keys(l.ends)) {
		text, _ := phone.Print(l.ends[key])
		out = append(out, "-"+key+isSign+text+"\n"...)
	}
	for key, all := range l.All() {
		var texts []string
		for _, s := range all {
			texts = append(texts, spell(s))
		}
		out = append(out, key+isSign+strings.Join(texts, orSign)+"\n"...)
	}
	return string(out)
}

// spell is the text of a way to speak.
func spell(s api.Spoken) string {
	var out []byte
	n := 0
	for _, p := range s.Phones {
		if vowel(p) {
			switch s.Stress[n] {
			case api.StressMain:
				out = append(out, signMain...)
			case api.StressSecond:
				out = append(out, signSecond...)
			}
			n++
		}
		text, _ := phone.Print([]api.Phone{p})
		out = append(out, text...)
	}
	return string(out)
}

// unspell is the way to speak of a text; false, if it is none that may be.
func unspell(text string) (api.Spoken, bool) {
	var s api.Spoken
	stress, at := api.StressNone, 0
next:
	for at < len(text) {
		for x, p := range phone.Each(text[at:]) {
			if vowel(p) {
				s.Stress = append(s.Stress, stress)
			} else if stress != api.StressNone {
				return api.Spoken{}, false
			}
			s.Phones = append(s.Phones, p)
			at += x.To
			stress = api.StressNone
			continue next
		}
		was := stress
		stress = signed(text[at:])
		if was != api.StressNone || stress == api.StressNone {
			return api.Spoken{}, false
		}
		at += len(signMain)
	}
	return s, stress == api.StressNone && May(s)
}

// signed is the stress of the sign with which a text begins.
func signed(text string) int {
	for _, r := range text {
		switch r {
		case 0x2C8:
			return api.StressMain
		case 0x2CC:
			return api.StressSecond
		}
		break
	}
	return api.StressNone
}

// Read: P10.6.
func Read(text string, r *rule.Rules) (*Lexicon, api.Spot) {
	if len(text) > api.MaxText {
		return nil, api.Spot{Err: api.ErrLong, At: api.MaxText}
	}
	l := New(r)
	at := 0
next:
	for at < len(text) {
		line, _, _ := strings.Cut(text[at:], "\n")
		if line == "" {
			at++
			continue next
		}
		if bad := l.line(line); bad.Err != api.OK {
			return nil, api.Spot{Err: bad.Err, At: at + bad.At}
		}
		at += len(line) + 1
	}
	return l, api.Spot{}
}

// line takes what a line says; what is wrong is told by its place in the line.
func (l *Lexicon) line(line string) api.Spot {
	head, value, ok := strings.Cut(line, isSign)
	if !ok {
		return api.Spot{Err: api.ErrEntry}
	}
	if ending, is := strings.CutPrefix(head, "-"); is {
		return l.ending(Key(ending), value, len(line)-len(value))
	}
	return l.word(Key(head), value, len(line)-len(value))
}

// ending takes an ending's line, whose value begins at at.
func (l *Lexicon) ending(key, value string, at int) api.Spot {
	_, has := l.ends[key]
	switch {
	case !mayEnding(key):
		return api.Spot{Err: api.ErrWord}
	case has:
		return api.Spot{Err: api.ErrEntry}
	case len(l.ends) >= api.MaxEndings:
		return api.Spot{Err: api.ErrLong}
	}
	phones, bad := phone.Read(value)
	if bad.Err != api.OK || !mayEnd(phones) {
		return api.Spot{Err: api.ErrSpoken, At: at}
	}
	l.ends[key] = phones
	return api.Spot{}
}

// word takes a word's line, whose value begins at at.
func (l *Lexicon) word(key, value string, at int) api.Spot {
	_, has := l.words[key]
	switch {
	case !mayWord(key):
		return api.Spot{Err: api.ErrWord}
	case has:
		return api.Spot{Err: api.ErrEntry}
	case len(l.words) >= api.MaxWords:
		return api.Spot{Err: api.ErrLong}
	}
	var all []api.Spoken
	for _, part := range strings.Split(value, orSign) {
		if len(all) == api.MaxSpoken {
			return api.Spot{Err: api.ErrLong, At: at}
		}
		s, ok := unspell(part)
		if !ok || slices.ContainsFunc(all, func(t api.Spoken) bool { return same(s, t) }) {
			return api.Spot{Err: api.ErrSpoken, At: at}
		}
		all = append(all, s)
		at += len(part) + len(orSign)
	}
	l.words[key] = all
	return api.Spot{}
}
