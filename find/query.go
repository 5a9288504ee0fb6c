package find

import (
	"strconv"
	"strings"

	"canticle/api"
)

// node is a part of a question: a term, terms near each other, what is not to be so, parts of which all or one is to be so.
type node interface {
	text(out []byte) []byte
}

// The kinds of terms.
const (
	asKey = iota
	asPattern
	asEdits
	asSound
	asPhrase
)

// term is what asks for keys, or for a phrase.
type term struct {
	kind  int
	token string
	words []string
	most  int
}

// nearby is two terms near each other.
type nearby struct {
	a, b term
	most int
}

// not is a part that is not to be so.
type not struct {
	part node
}

// all is parts of which each is to be so.
type all struct {
	parts []node
}

// some is parts of which one is to be so.
type some struct {
	parts []node
}

// Query is a question.
type Query struct {
	root  node
	terms int
}

func (t term) text(out []byte) []byte { return append(out, t.token...) }

func (x nearby) text(out []byte) []byte {
	return append(out, x.a.token+" /"+strconv.Itoa(x.most)+" "+x.b.token...)
}

func (x not) text(out []byte) []byte {
	out = append(out, "not "...)
	switch x.part.(type) {
	case all, some:
		return append(x.part.text(append(out, '(')), ')')
	}
	return x.part.text(out)
}

func (x all) text(out []byte) []byte {
	for k, p := range x.parts {
		if k > 0 {
			out = append(out, " and "...)
		}
		if _, ok := p.(some); ok {
			out = append(p.text(append(out, '(')), ')')
		} else {
			out = p.text(out)
		}
	}
	return out
}

func (x some) text(out []byte) []byte {
	for k, p := range x.parts {
		if k > 0 {
			out = append(out, " or "...)
		}
		out = p.text(out)
	}
	return out
}

// Text: P23.6.
func (q *Query) Text() string {
	if q == nil {
		return ""
	}
	return string(q.root.text(nil))
}

// Terms: P23.6.
func (q *Query) Terms() int {
	if q == nil {
		return 0
	}
	return q.terms
}

// The kinds of tokens.
const (
	tokenEnd = iota
	tokenOpen
	tokenShut
	tokenQuoted
	tokenFar
	tokenWord
	tokenAnd
	tokenOr
	tokenNot
)

// token is a token of a question's text.
type token struct {
	kind int
	at   int
	text string
}

// frame is what is open: a question, whose parts are laid to its boths; or a not.
type frame struct {
	not   bool
	boths [][]node
}

// reader reads a question, token by token.
type reader struct {
	text  string
	at    int
	token token
	open  []frame
	terms int
}

func bad(e api.Errno, at int) (*Query, api.Spot) { return nil, api.Spot{Err: e, At: at} }

// Parse: P23.5.
func Parse(text string) (*Query, api.Spot) {
	if len(text) > api.MaxText {
		return bad(api.ErrLong, api.MaxText)
	}
	r := reader{text: text, open: []frame{{boths: [][]node{nil}}}}
	return r.read()
}

// read goes from where a part is wanted to where one is had.
func (r *reader) read() (*Query, api.Spot) {
	var part node
	var top *frame
	var e api.Errno
	ok := r.next()
want:
	if !ok {
		return bad(api.ErrQuery, r.token.at)
	}
	switch r.token.kind {
	case tokenOpen, tokenNot:
		if len(r.open) > api.MaxAsked {
			return bad(api.ErrLong, r.token.at)
		}
		r.open = append(r.open, frame{not: r.token.kind == tokenNot, boths: [][]node{nil}})
		ok = r.next()
		goto want
	}
	if part, e = r.near(); e != api.OK {
		return bad(e, r.token.at)
	}
had:
	top = &r.open[len(r.open)-1]
	if top.not {
		part = not{part}
		r.open = r.open[:len(r.open)-1]
		goto had
	}
	top.boths[len(top.boths)-1] = append(top.boths[len(top.boths)-1], part)
	switch r.token.kind {
	case tokenAnd:
		ok = r.next()
	case tokenOr:
		top.boths = append(top.boths, nil)
		ok = r.next()
	case tokenShut:
		if len(r.open) == 1 {
			return bad(api.ErrQuery, r.token.at)
		}
		part = top.question()
		r.open = r.open[:len(r.open)-1]
		if !r.next() {
			return bad(api.ErrQuery, r.token.at)
		}
		goto had
	case tokenEnd:
		if len(r.open) > 1 {
			return bad(api.ErrQuery, r.token.at)
		}
		return &Query{root: top.question(), terms: r.terms}, api.Spot{}
	}
	goto want
}

// question puts together what a frame has. What stands in brackets is laid to what is around it where that says the same.
func (f frame) question() node {
	var boths []node
	for _, b := range f.boths {
		var parts []node
		for _, p := range b {
			if x, ok := p.(all); ok {
				parts = append(parts, x.parts...)
			} else {
				parts = append(parts, p)
			}
		}
		if len(parts) > 1 {
			boths = append(boths, all{parts})
			continue
		}
		if x, ok := parts[0].(some); ok {
			boths = append(boths, x.parts...)
		} else {
			boths = append(boths, parts[0])
		}
	}
	if len(boths) > 1 {
		return some{boths}
	}
	return boths[0]
}

// near takes a term, or two that are to be near each other.
func (r *reader) near() (node, api.Errno) {
	a, e := r.term()
	if e != api.OK || r.token.kind != tokenFar {
		return a, e
	}
	most, _ := strconv.Atoi(r.token.text[1:])
	if !r.next() {
		return nil, api.ErrQuery
	}
	b, e := r.term()
	return nearby{a, b, most}, e
}

// term takes a term, and the token behind it.
func (r *reader) term() (term, api.Errno) {
	var t term
	ok := false
	switch r.token.kind {
	case tokenQuoted:
		t, ok = phrase(r.token.text)
	case tokenWord:
		t, ok = asked(r.token.text)
	}
	if !ok {
		return term{}, api.ErrQuery
	}
	if r.terms++; r.terms > api.MaxAsked {
		return term{}, api.ErrLong
	}
	if !r.next() {
		return term{}, api.ErrQuery
	}
	return t, api.OK
}

// next goes on to the next token; false, if none begins where it must, or goes on as it must.
func (r *reader) next() bool {
	for r.at < len(r.text) && r.text[r.at] == ' ' {
		r.at++
	}
	r.token = token{at: r.at}
	if r.at == len(r.text) {
		return true
	}
	rest, n := r.text[r.at:], 1
	switch rest[0] {
	case '(':
		r.token.kind = tokenOpen
	case ')':
		r.token.kind = tokenShut
	case '"':
		end := strings.IndexByte(rest[1:], '"')
		if end < 0 {
			return false
		}
		r.token.kind, n = tokenQuoted, end+2
	default:
		n = row(rest)
		r.token.kind = kind(rest[:n])
	}
	r.token.text = rest[:n]
	r.at += n
	return r.token.kind != tokenEnd
}

// row is how many bytes the row has, up to what ends a word.
func row(s string) int {
	for k, c := range s {
		switch c {
		case ' ', '(', ')', '"':
			return k
		}
	}
	return len(s)
}

// kind is what kind of token a row is; tokenEnd, if it is none.
func kind(s string) int {
	switch s {
	case "and":
		return tokenAnd
	case "or":
		return tokenOr
	case "not":
		return tokenNot
	}
	switch {
	case s[0] != '/':
		return tokenWord
	case figures(s[1:], 2):
		return tokenFar
	}
	return tokenEnd
}

// figures tells whether a text is one to most figures.
func figures(s string, most int) bool {
	for _, c := range s {
		if c < '0' || c > '9' {
			return false
		}
	}
	return len(s) >= 1 && len(s) <= most
}

// phrase is the term of a quoted token; false, if it has no words.
func phrase(text string) (term, bool) {
	t := term{kind: asPhrase}
	for _, w := range strings.Split(text[1:len(text)-1], " ") {
		if w != "" {
			t.words = append(t.words, w)
		}
	}
	t.token = `"` + strings.Join(t.words, " ") + `"`
	return t, len(t.words) > 0
}

// asked is the term of a word; false, if it is none that may stand.
func asked(word string) (term, bool) {
	t := term{token: word}
	rest, sound := strings.CutPrefix(word, "=")
	head, number, tilde := strings.Cut(rest, "~")
	t.words = []string{head}
	switch {
	case sound:
		t.kind = asSound
	case tilde:
		t.kind = asEdits
	case strings.IndexByte(head, '*') >= 0 || strings.IndexByte(head, '?') >= 0:
		t.kind = asPattern
	}
	most := 1
	if sound {
		most = 3
	}
	if head == "" || tilde && !figures(number, most) {
		return term{}, false
	}
	t.most, _ = strconv.Atoi(number)
	return t, true
}
