package mould

import (
	"iter"
	"strings"

	"canticle/api"
)

// names are the names of the forms of the house, each with a line feed behind it.
const names = "ballad\ncouplets\nghazal\nhaiku\nlimerick\nottava rima\npantoum\npetrarchan sonnet\nsestina\nsonnet\nterza rima\ntriolet\nvillanelle\n"

// pentameter is the metre line of those forms of the house that have one.
const pentameter = "metre p 5 iamb; any spondee 1, pyrrhic 1, trochee 1; end x 1\n"

// House goes over the names of the forms of the house.
func House() iter.Seq[string] {
	return func(yield func(string) bool) {
		from := 0
		for at, r := range names {
			if r != '\n' {
				continue
			}
			if !yield(names[from:at]) {
				return
			}
			from = at + 1
		}
	}
}

// stanzas are the stanza lines of a form of the house.
func stanzas(name string) string {
	switch name {
	case "ballad":
		return "round 1 25 1 x/8 a/6 x/8 a/6"
	case "couplets":
		return "round 1 25 1 a:p a:p"
	case "ghazal":
		return "stanza a a@1\nround 0 99 0 x a@2"
	case "haiku":
		return "stanza x/5 x/7 x/5"
	case "limerick":
		return "stanza a/8 a/8 b/5 b/5 a/8"
	case "ottava rima":
		return "stanza a:p b:p a:p b:p a:p b:p c:p c:p"
	case "pantoum":
		return "stanza a b a b\nround 0 23 1 b^3 c b^3 c"
	case "petrarchan sonnet":
		return "stanza a:p b:p b:p a:p a:p b:p b:p a:p\nstanza c:p d:p e:p c:p d:p e:p"
	case "sestina":
		return "stanza x x x x x x\nround 5 5 0 x@1 x@7 x@4 x@8 x@7 x@9\nstanza x@3~6 x@3~6 x@3~6"
	case "sonnet":
		return "stanza a:p b:p a:p b:p\nstanza c:p d:p c:p d:p\nstanza e:p f:p e:p f:p\nstanza g:p g:p"
	case "terza rima":
		return "round 1 24 1 a:p b:p a:p\nstanza a:p"
	case "triolet":
		return "stanza A1 B1 a A1^3 a b A1^6 B1^6"
	case "villanelle":
		return "stanza A1 b A2\nstanza a b A1^5\nstanza a b A2^6\nstanza a b A1^6\nstanza a b A2^6\nstanza a b A1^6 A2^4"
	}
	return ""
}

// Of is a form of the house.
func Of(name string) (*Form, api.Errno) {
	lines := stanzas(name)
	if lines == "" {
		return nil, api.ErrNone
	}
	text := "form " + name + "\n"
	if strings.Contains(lines, ":p") {
		text += pentameter
	}
	f, _ := Read(text + lines + "\n")
	return f, api.OK
}
