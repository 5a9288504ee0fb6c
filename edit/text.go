package edit

import (
	"strconv"

	"canticle/api"
	"canticle/runes"
)

// quote is a text quoted.
func quote(s string) string {
	out := []byte{'"'}
	for at, r := range s {
		switch {
		case r == '"' || r == '\\':
			out = append(out, '\\', byte(r))
		case r >= 0x20 && r <= 0x7E:
			out = append(out, byte(r))
		case r == 0xFFFD && lone(s, at):
			out = append(out, '\\', 'x', digit(s[at]>>4), digit(s[at]&0xF))
		default:
			out = append(out, "\\{"+strconv.FormatInt(int64(r), 16)+"}"...)
		}
	}
	return string(append(out, '"'))
}

// lone tells whether what a range tells as U+FFFD is a broken byte: that alone has the width of one byte.
func lone(s string, at int) bool {
	p, _ := runes.At(s, at)
	return p.Width == 1
}

func digit(n byte) byte { return "0123456789abcdef"[n] }

// Print is a change's text.
func Print(c []api.Step) (string, api.Errno) {
	if !may(c) {
		return "", api.ErrArg
	}
	var out []byte
	for k, s := range c {
		if k > 0 {
			out = append(out, ' ')
		}
		switch kind(s) {
		case isKeep:
			out = append(out, "="+strconv.Itoa(s.Keep)...)
		case isDrop:
			out = append(out, "-"+quote(s.Drop)...)
		case isPut:
			out = append(out, "+"+quote(s.Put)...)
		}
	}
	return string(out), api.OK
}

// reader reads a change's text.
type reader struct {
	text     string
	at       int
	from, to int
}

// look is the next byte; a nought where the text ends.
func (r *reader) look() byte {
	if r.at == len(r.text) {
		return 0
	}
	return r.text[r.at]
}

func bad(at int) api.Spot { return api.Spot{Err: api.ErrChange, At: at} }

// Read is the change of a text.
func Read(text string) ([]api.Step, api.Spot) {
	if len(text) > api.MaxPrint {
		return nil, api.Spot{Err: api.ErrLong, At: api.MaxPrint}
	}
	r := reader{text: text}
	var out []api.Step
	for r.at < len(text) {
		if len(out) > 0 {
			if r.look() != ' ' {
				return nil, bad(r.at)
			}
			r.at++
		}
		s, wrong := r.step()
		if wrong.Err != api.OK {
			return nil, wrong
		}
		out = append(out, s)
	}
	return out, api.Spot{}
}

// step reads a step.
func (r *reader) step() (api.Step, api.Spot) {
	sign := r.look()
	if sign != '=' && sign != '-' && sign != '+' {
		return api.Step{}, bad(r.at)
	}
	r.at++
	if sign == '=' {
		n, wrong := r.number()
		return api.Step{Keep: n}, wrong
	}
	s, wrong := r.quoted(sign == '-')
	if sign == '-' {
		return api.Step{Drop: s}, wrong
	}
	return api.Step{Put: s}, wrong
}

// number reads a number.
func (r *reader) number() (int, api.Spot) {
	at, n := r.at, 0
	for c := r.look(); c >= '1' && c <= '9' || c == '0' && n > 0; c = r.look() {
		n = min(10*n+int(c-'0'), api.MaxText+1)
		r.at++
	}
	r.from += n
	r.to += n
	if n == 0 || r.from > api.MaxText || r.to > api.MaxText {
		return 0, bad(at)
	}
	return n, api.Spot{}
}

// quoted reads quoted bytes, which are dropped or put.
func (r *reader) quoted(drop bool) (string, api.Spot) {
	first := r.at
	if r.look() != '"' {
		return "", bad(first)
	}
	r.at++
	var out []byte
parts:
	for {
		c := r.look()
		switch {
		case c == '"':
			break parts
		case c == '\\':
			r.at++
			s, ok := r.escape()
			if !ok {
				return "", bad(r.at)
			}
			out = append(out, s...)
		case c >= 0x20 && c <= 0x7E:
			out = append(out, c)
			r.at++
		default:
			return "", bad(r.at)
		}
	}
	r.at++
	if drop {
		r.from += len(out)
	} else {
		r.to += len(out)
	}
	s := string(out)
	if s == "" || quote(s) != r.text[first:r.at] || r.from > api.MaxText || r.to > api.MaxText {
		return "", bad(first)
	}
	return s, api.Spot{}
}

// escape reads what stands behind a backslash; false, if nothing goes on so where the reader is then.
func (r *reader) escape() (string, bool) {
	switch c := r.look(); c {
	case '"', '\\':
		r.at++
		return string([]byte{c}), true
	case 'x':
		r.at++
		n, digits := r.hex(2)
		return string([]byte{byte(n)}), digits == 2
	case '{':
		r.at++
		n, digits := r.hex(6)
		if digits == 0 || r.look() != '}' {
			return "", false
		}
		r.at++
		return runes.Encode(n), true
	}
	return "", false
}

// hex reads at most so many digits to the base 16.
func (r *reader) hex(most int) (n rune, digits int) {
	for ; digits < most; digits++ {
		c := r.look()
		switch {
		case c >= '0' && c <= '9':
			n = n<<4 | rune(c-'0')
		case c >= 'a' && c <= 'f':
			n = n<<4 | rune(c-'a'+10)
		default:
			return n, digits
		}
		r.at++
	}
	return n, digits
}
