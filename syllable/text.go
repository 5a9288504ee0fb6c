package syllable

import (
	"canticle/api"
	"canticle/phone"
)

// The signs: a point, and those of stress.
const (
	signNone   = '.'
	signSecond = 0x2CC
	signMain   = 0x2C8
)

// Print: P11.6.
func Print(l []api.Phone, syllables []api.Syllable) (string, api.Errno) {
	if e := May(l, syllables); e != api.OK {
		return "", e
	}
	var out []byte
	for k, s := range syllables {
		switch {
		case s.Stress == api.StressMain:
			out = append(out, string(rune(signMain))...)
		case s.Stress == api.StressSecond:
			out = append(out, string(rune(signSecond))...)
		case k > 0:
			out = append(out, signNone)
		}
		text, _ := phone.Print(l[s.From:s.To])
		out = append(out, text...)
	}
	return string(out), api.OK
}

// sign is the stress that the sign says with which a text begins, and how many bytes it has; 0, if none does.
func sign(text string) (stress, width int) {
	for _, r := range text {
		switch r {
		case signNone:
			return api.StressNone, 1
		case signSecond:
			return api.StressSecond, 2
		case signMain:
			return api.StressMain, 2
		}
		break
	}
	return 0, 0
}

// reader reads syllables.
type reader struct {
	text      string
	at        int
	phones    []api.Phone
	syllables []api.Syllable
	nucleus   bool // a vowel stands behind the last sign
	signed    bool // a sign stands right ahead
}

// Read: P11.7.
func Read(text string) ([]api.Phone, []api.Syllable, api.Spot) {
	r := reader{text: text, syllables: []api.Syllable{{}}}
next:
	for r.at < len(text) {
		stress, width := sign(text[r.at:])
		if width > 0 {
			if e := r.sign(stress, width); e != api.OK {
				return nil, nil, api.Spot{Err: e, At: r.at}
			}
			r.at += width
			continue next
		}
		for x, p := range phone.Each(text[r.at:]) {
			if e := r.phone(p); e != api.OK {
				return nil, nil, api.Spot{Err: e, At: r.at}
			}
			r.at += x.To
			continue next
		}
		return nil, nil, api.Spot{Err: api.ErrPhone, At: r.at}
	}
	if !r.nucleus {
		return nil, nil, api.Spot{Err: api.ErrNucleus, At: r.at}
	}
	r.end()
	return r.phones, r.syllables, api.Spot{}
}

// sign takes a sign.
func (r *reader) sign(stress, width int) api.Errno {
	switch {
	case r.at == 0 && stress == api.StressNone || r.signed:
		return api.ErrSyllable
	case r.at > 0 && !r.nucleus:
		return api.ErrNucleus
	case r.at+width == len(r.text):
		return api.ErrSyllable
	}
	if r.at > 0 {
		r.end()
		r.syllables = append(r.syllables, api.Syllable{From: len(r.phones)})
	}
	r.syllables[len(r.syllables)-1].Stress = stress
	r.nucleus, r.signed = false, true
	return api.OK
}

// phone takes a phone.
func (r *reader) phone(p api.Phone) api.Errno {
	if len(r.phones) == api.MaxPhones {
		return api.ErrLong
	}
	if vowel(p) {
		if r.nucleus {
			return api.ErrNucleus
		}
		if len(r.syllables) > api.MaxSyllables {
			return api.ErrLong
		}
		r.nucleus = true
		r.syllables[len(r.syllables)-1].Nucleus = len(r.phones)
	}
	r.phones = append(r.phones, p)
	r.signed = false
	return api.OK
}

// end ends the last syllable.
func (r *reader) end() {
	s := &r.syllables[len(r.syllables)-1]
	s.To = len(r.phones)
	s.Heavy = heavy(r.phones, *s)
}
