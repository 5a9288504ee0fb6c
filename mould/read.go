package mould

import (
	"slices"
	"strings"

	"canticle/api"
	"canticle/metre"
)

// reader reads a form's text.
type reader struct {
	text  string
	at    int
	form  *Form
	title bool
	item  item
	signs []byte // of the item's marks
}

func bad(e api.Errno, at int) api.Spot { return api.Spot{Err: e, At: at} }

// Read reads a form.
func Read(text string) (*Form, api.Spot) {
	if len(text) > api.MaxText {
		return nil, bad(api.ErrLong, api.MaxText)
	}
	r := reader{text: text, form: &Form{round: -1}}
	if wrong := r.read(); wrong.Err != api.OK {
		return nil, wrong
	}
	return r.form, api.Spot{}
}

// look is the next byte; a line feed where the text ends.
func (r *reader) look() byte {
	if r.at == len(r.text) {
		return '\n'
	}
	return r.text[r.at]
}

// word goes on behind a text that must stand here.
func (r *reader) word(text string) api.Spot {
	for _, u := range text {
		if r.at == len(r.text) || rune(r.text[r.at]) != u {
			return bad(api.ErrForm, r.at)
		}
		r.at++
	}
	return api.Spot{}
}

// rest is what stands up to the line's end, and goes on there.
func (r *reader) rest() string {
	line, _, _ := strings.Cut(r.text[r.at:], "\n")
	r.at += len(line)
	return line
}

// read goes line by line.
func (r *reader) read() api.Spot {
	var wrong api.Spot
	var c byte
line:
	if r.at == len(r.text) {
		goto end
	}
	c = r.look()
	switch {
	case c == '\n':
		r.at++
	case c == '#':
		r.rest()
	case !r.title:
		wrong = r.head()
	case c == 'm' && len(r.form.stanzas) == 0:
		wrong = r.metre()
	case c == 's':
		wrong = r.stanza()
	case c == 'r' && r.form.round < 0:
		wrong = r.round()
	default:
		return bad(api.ErrForm, r.at)
	}
	if wrong.Err != api.OK {
		return wrong
	}
	goto line
end:
	if len(r.form.stanzas) == 0 {
		return bad(api.ErrForm, len(r.text))
	}
	return api.Spot{}
}

// head reads the title line.
func (r *reader) head() api.Spot {
	if wrong := r.word("form "); wrong.Err != api.OK {
		return wrong
	}
	at := r.at
	if r.form.name = r.rest(); r.form.name == "" {
		return bad(api.ErrForm, at)
	}
	r.title = true
	return api.Spot{}
}

// small takes a letter a to z.
func (r *reader) small() (byte, api.Spot) {
	c := r.look()
	if c < 'a' || c > 'z' {
		return 0, bad(api.ErrForm, r.at)
	}
	r.at++
	return c, api.Spot{}
}

// metre reads a metre line.
func (r *reader) metre() api.Spot {
	if wrong := r.word("metre "); wrong.Err != api.OK {
		return wrong
	}
	c, wrong := r.small()
	if wrong.Err != api.OK {
		return wrong
	}
	if slices.Contains(r.form.letters, rune(c)) {
		return bad(api.ErrSaid, r.at-1)
	}
	if wrong = r.word(" "); wrong.Err != api.OK {
		return wrong
	}
	at := r.at
	m, wrong := metre.Read(r.rest())
	if wrong.Err != api.OK {
		return bad(wrong.Err, at+wrong.At)
	}
	r.form.letters, r.form.metres = append(r.form.letters, rune(c)), append(r.form.metres, m)
	return api.Spot{}
}

// stanza reads a stanza line that is no round line.
func (r *reader) stanza() api.Spot {
	at := r.at
	if wrong := r.word("stanza"); wrong.Err != api.OK {
		return wrong
	}
	return r.items(at)
}

// round reads the round line.
func (r *reader) round() api.Spot {
	first := r.at
	var l [3]int
	for k, ahead := range []string{"round ", " ", " "} {
		if wrong := r.word(ahead); wrong.Err != api.OK {
			return wrong
		}
		at := r.at
		n, wrong := r.number()
		if wrong.Err != api.OK {
			return wrong
		}
		if n > api.MaxLines || k == 1 && n < l[0] {
			return bad(api.ErrArg, at)
		}
		l[k] = n
	}
	f := r.form
	f.round, f.least, f.most, f.shift = len(f.stanzas), l[0], l[1], l[2]
	return r.items(first)
}

// number takes a number; one above MaxLines is told as one more than that.
func (r *reader) number() (int, api.Spot) {
	at, n := r.at, 0
	for c := r.look(); c >= '0' && c <= '9' && (n > 0 || r.at == at); c = r.look() {
		n = min(10*n+int(c-'0'), api.MaxLines+1)
		r.at++
	}
	if r.at == at {
		return 0, bad(api.ErrForm, at)
	}
	return n, api.Spot{}
}

// items reads what a stanza line has, which begins at first.
func (r *reader) items(first int) api.Spot {
	k := len(r.form.stanzas)
	r.form.stanzas = append(r.form.stanzas, nil)
	for {
		if wrong := r.word(" "); wrong.Err != api.OK {
			return wrong
		}
		r.item, r.signs = item{at: r.at, metre: -1}, nil
		if wrong := r.rhyme(); wrong.Err != api.OK {
			return wrong
		}
		if wrong := r.marks(); wrong.Err != api.OK {
			return wrong
		}
		if wrong := r.backs(); wrong.Err != api.OK {
			return wrong
		}
		r.form.stanzas[k] = append(r.form.stanzas[k], r.item)
		if r.look() == '\n' {
			return r.line(first)
		}
	}
}

// rhyme reads what an item rhymes with.
func (r *reader) rhyme() api.Spot {
	c := r.look()
	switch {
	case c == 'x':
		r.item.rhyme.Class = -1
	case c >= 'a' && c <= 'z':
		r.item.rhyme.Class = class(c)
	case c >= 'A' && c <= 'Z' && c != 'X':
		r.item.rhyme.Class = class(c - 'A' + 'a')
		r.at++
		if c = r.look(); c < '1' || c > '9' {
			return bad(api.ErrForm, r.at)
		}
		r.item.rhyme.Refrain = int(c - '0')
	default:
		return bad(api.ErrForm, r.at)
	}
	r.at++
	return api.Spot{}
}

// marks reads an item's marks, each by what reads such marks, up to a blank or the line's end.
func (r *reader) marks() api.Spot {
	readers := []func() api.Spot{r.measured, r.counted, r.same, r.ends, r.has, r.begins}
	for {
		c := r.look()
		if c == ' ' || c == '\n' {
			return api.Spot{}
		}
		k, most := strings.IndexByte(":/^@~'", c), 1
		if c == '~' {
			most = 4
		}
		had := 0
		for _, s := range r.signs {
			if s == c {
				had++
			}
		}
		if k < 0 || had == most {
			return bad(api.ErrForm, r.at)
		}
		r.signs = append(r.signs, c)
		r.at++
		if wrong := readers[k](); wrong.Err != api.OK {
			return wrong
		}
	}
}

func (r *reader) measured() api.Spot {
	c, wrong := r.small()
	if wrong.Err != api.OK {
		return wrong
	}
	if r.item.metre = slices.Index(r.form.letters, rune(c)); r.item.metre < 0 {
		return bad(api.ErrSaid, r.at-1)
	}
	return api.Spot{}
}

func (r *reader) begins() api.Spot {
	c, wrong := r.small()
	r.item.begins = rune(c)
	return wrong
}

// count takes the number of a mark.
func (r *reader) count(to *int) api.Spot {
	at := r.at
	n, wrong := r.number()
	if wrong.Err != api.OK {
		return wrong
	}
	if n < 1 || n > api.MaxLines || slices.Contains(r.item.has, n) && r.text[at-1] == '~' {
		return bad(api.ErrArg, at)
	}
	*to = n
	return api.Spot{}
}

func (r *reader) counted() api.Spot { return r.count(&r.item.syllables) }

// lead takes the number of a mark that leads to a line ahead.
func (r *reader) lead(to *int) api.Spot {
	at := r.at - 1
	wrong := r.count(to)
	r.item.back = append(r.item.back, mark{at: at, number: *to})
	return wrong
}

func (r *reader) same() api.Spot { return r.lead(&r.item.same) }

func (r *reader) ends() api.Spot { return r.lead(&r.item.ends) }

func (r *reader) has() api.Spot {
	var n int
	wrong := r.lead(&n)
	r.item.has = append(r.item.has, n)
	return wrong
}

// backs judges an item that is read, and not laid to its line yet, by where its marks lead.
func (r *reader) backs() api.Spot {
	f := r.form
	line := f.size(f.least)
	if f.round == len(f.stanzas)-1 {
		// The first round has the least numbers, if there ever is one.
		if f.most == 0 {
			return api.Spot{}
		}
		line = f.size(1)
	}
	for _, m := range r.item.back {
		if m.number > line {
			return bad(api.ErrBack, m.at)
		}
	}
	return api.Spot{}
}

// line judges a stanza line that is read, which begins at first.
func (r *reader) line(first int) api.Spot {
	f := r.form
	if f.size(f.most) > api.MaxLines {
		return bad(api.ErrLong, first)
	}
	k := len(f.stanzas) - 1
	rounds := 0
	switch {
	case f.round == k:
		rounds = f.most - 1
	case f.round >= 0:
		rounds = f.most
	}
	for _, x := range f.stanzas[k] {
		if rounds > 0 && x.rhyme.Class >= 0 && x.rhyme.Class+rounds*f.shift >= api.Classes {
			return bad(api.ErrRange, x.at)
		}
	}
	return api.Spot{}
}
