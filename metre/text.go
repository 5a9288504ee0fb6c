package metre

import (
	"strconv"
	"strings"

	"canticle/api"
)

// word is the foot's word of signs.
func word(signs string) string {
	for name, own := range Names() {
		if own == signs {
			return name
		}
	}
	return signs
}

// Print: P13.4.
func Print(m api.Metre) (string, api.Errno) {
	if e := Check(m); e != api.OK {
		return "", e
	}
	var groups []string
	for k := 0; k < len(m.Feet); {
		n := 1
		for k+n < len(m.Feet) && m.Feet[k+n].Own == m.Feet[k].Own {
			n++
		}
		text := word(m.Feet[k].Own)
		if n > 1 {
			text = strconv.Itoa(n) + " " + text
		}
		groups = append(groups, text)
		k += n
	}
	clauses := []string{strings.Join(groups, ", ")}
	for k, f := range m.Feet {
		if len(f.Others) > 0 {
			clauses = append(clauses, strconv.Itoa(k+1)+" "+list(word, f.Others...))
		}
	}
	if len(m.Ends) > 0 {
		signs := func(s string) string { return s }
		clauses = append(clauses, "end "+list(signs, m.Ends...))
	}
	for _, b := range m.Breaks {
		clauses = append(clauses, "break "+strconv.Itoa(b.After)+" "+strconv.Itoa(b.Cost))
	}
	return strings.Join(clauses, "; "), api.OK
}

// list is the text of several ways.
func list(word func(string) string, l ...api.Variant) string {
	var out []string
	for _, v := range l {
		out = append(out, word(v.Signs)+" "+strconv.Itoa(v.Cost))
	}
	return strings.Join(out, ", ")
}

// token is a word or a mark of a text; its text is empty where the text ends.
type token struct {
	text string
	at   int
}

// tokens cuts a text into words and marks.
func tokens(text string) []token {
	var l []token
	from := 0
	for at, r := range text + " " {
		if r != ' ' && r != ',' && r != ';' {
			continue
		}
		if at > from {
			l = append(l, token{text[from:at], from})
		}
		if r != ' ' {
			l = append(l, token{string(r), at})
		}
		from = at + 1
	}
	return append(l, token{"", len(text)})
}

// reader reads a metre, token by token.
type reader struct {
	tokens []token
	metre  api.Metre
}

func bad(e api.Errno, at int) api.Spot { return api.Spot{Err: e, At: at} }

func (r *reader) look() token { return r.tokens[0] }

// take is the next token; at the text's end it stays.
func (r *reader) take() token {
	t := r.tokens[0]
	if len(r.tokens) > 1 {
		r.tokens = r.tokens[1:]
	}
	return t
}

// Read: P13.3.
func Read(text string) (api.Metre, api.Spot) {
	if len(text) > api.MaxText {
		return api.Metre{}, bad(api.ErrLong, api.MaxText)
	}
	r := reader{tokens: tokens(text)}
	if wrong := r.read(); wrong.Err != api.OK {
		return api.Metre{}, wrong
	}
	return r.metre, api.Spot{}
}

// read goes from groups to clauses, and from one clause to the next.
func (r *reader) read() api.Spot {
	var t token
	var wrong api.Spot
group:
	if wrong = r.group(); wrong.Err != api.OK {
		return wrong
	}
	if t = r.take(); t.text == "," {
		goto group
	}
next:
	switch t.text {
	case "":
		return api.Spot{}
	case ";":
		goto clause
	}
	return bad(api.ErrMetre, t.at)
clause:
	if wrong = r.clause(); wrong.Err != api.OK {
		return wrong
	}
	t = r.take()
	goto next
}

// figure tells whether a word is a figure.
func figure(s string) bool { return s != "" && (s[0] == '-' || s[0] >= '0' && s[0] <= '9') }

// number takes a figure, which is to be from least to greatest.
func (r *reader) number(least, greatest int) (int, api.Spot) {
	t := r.take()
	digits := strings.TrimPrefix(t.text, "-")
	n, err := strconv.Atoi(t.text)
	switch {
	case err != nil || len(digits) > 18 || strconv.Itoa(n) != t.text:
		return 0, bad(api.ErrMetre, t.at)
	case n < least || n > greatest:
		return 0, bad(api.ErrArg, t.at)
	}
	return n, api.Spot{}
}

// foot takes a foot, and tells its signs.
func (r *reader) foot() (string, api.Spot) {
	t := r.take()
	switch {
	case t.text == "" || t.text == "," || t.text == ";" || figure(t.text):
		return "", bad(api.ErrMetre, t.at)
	case isSigns(t.text, mostSigns):
		return t.text, api.Spot{}
	case t.text[0] == 'x' || t.text[0] == '/':
		return "", bad(api.ErrMetre, t.at)
	}
	signs, ok := Named(t.text)
	if !ok {
		return "", bad(api.ErrFoot, t.at)
	}
	return signs, api.Spot{}
}

// group takes a group of feet.
func (r *reader) group() api.Spot {
	n, first := 1, r.look()
	var wrong api.Spot
	if figure(first.text) {
		if n, wrong = r.number(1, api.MaxFeet); wrong.Err != api.OK {
			return wrong
		}
	}
	own, wrong := r.foot()
	if wrong.Err != api.OK {
		return wrong
	}
	if len(r.metre.Feet)+n > api.MaxFeet {
		return bad(api.ErrLong, first.at)
	}
	for range n {
		r.metre.Feet = append(r.metre.Feet, api.Foot{Own: own})
	}
	return api.Spot{}
}

// clause takes what stands behind a semicolon.
func (r *reader) clause() api.Spot {
	m := &r.metre
	t := r.look()
	switch {
	case t.text == "any":
		r.take()
		return r.others(m.Feet, true)
	case t.text == "end":
		r.take()
		return r.ends()
	case t.text == "break":
		r.take()
		return r.pause()
	}
	// What is no figure number tells, too.
	n, wrong := r.number(1, len(m.Feet))
	if wrong.Err != api.OK {
		return wrong
	}
	return r.others(m.Feet[n-1:n], false)
}

// others takes ways for some feet; of any feet those whose own it is are passed over.
func (r *reader) others(feet []api.Foot, any bool) api.Spot {
	for {
		at := r.look().at
		signs, wrong := r.foot()
		if wrong.Err != api.OK {
			return wrong
		}
		var to []*api.Foot
		for k := range feet {
			if f := &feet[k]; !any || f.Own != signs {
				to = append(to, f)
			}
		}
		for _, f := range to {
			if has(signs, ways(f.Own, f.Others...)...) {
				return bad(api.ErrAgain, at)
			}
		}
		for _, f := range to {
			if len(f.Others) == mostOthers {
				return bad(api.ErrLong, at)
			}
		}
		cost, wrong := r.number(0, api.MaxCost)
		if wrong.Err != api.OK {
			return wrong
		}
		for _, f := range to {
			f.Others = append(f.Others, api.Variant{Signs: signs, Cost: cost})
		}
		if r.look().text != "," {
			return api.Spot{}
		}
		r.take()
	}
}

// ends takes ways of the end.
func (r *reader) ends() api.Spot {
	for {
		t := r.take()
		switch {
		case !isSigns(t.text, mostEnd):
			return bad(api.ErrMetre, t.at)
		case has(t.text, r.metre.Ends...):
			return bad(api.ErrAgain, t.at)
		case len(r.metre.Ends) == mostEnds:
			return bad(api.ErrLong, t.at)
		}
		cost, wrong := r.number(0, api.MaxCost)
		if wrong.Err != api.OK {
			return wrong
		}
		r.metre.Ends = append(r.metre.Ends, api.Variant{Signs: t.text, Cost: cost})
		if r.look().text != "," {
			return api.Spot{}
		}
		r.take()
	}
}

// pause takes a break.
func (r *reader) pause() api.Spot {
	m := &r.metre
	least := 1
	if n := len(m.Breaks); n > 0 {
		least = m.Breaks[n-1].After + 1
	}
	after, wrong := r.number(least, len(m.Feet)-1)
	if wrong.Err != api.OK {
		return wrong
	}
	cost, wrong := r.number(1, api.MaxCost)
	if wrong.Err != api.OK {
		return wrong
	}
	m.Breaks = append(m.Breaks, api.Break{After: after, Cost: cost})
	return api.Spot{}
}
