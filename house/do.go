package house

import (
	"strings"

	"canticle/api"
)

// mostName is how many bytes a name has at most.
const mostName = 64

// command is what a first word stands for: the kinds of the words behind it (N a name, I a number, T any word; a star, that the last one may stand any number of times), whether it takes lines, and what it does.
type command struct {
	kinds string
	lines bool
	do    func(h *House, a asked) string
}

// asked is what a command is asked: its words, its numbers at their places among these, its lines.
type asked struct {
	words   []string
	numbers []int
	lines   string
}

// commands are all commands.
func commands() map[string]command {
	return map[string]command{
		"poem":    {"N", true, (*House).doPoem},
		"drop":    {"N", false, (*House).doDrop},
		"names":   {"", false, (*House).doNames},
		"show":    {"N", false, (*House).doShow},
		"line":    {"NI", false, (*House).doLine},
		"rules":   {"", true, (*House).doRules},
		"lexicon": {"", true, (*House).doLexicon},
		"order":   {"", true, (*House).doOrder},
		"taste":   {"IIII", false, (*House).doTaste},
		"vocab":   {"", true, (*House).doVocab},
		"metre":   {"T", false, (*House).doMetre},
		"form":    {"", true, (*House).doForm},
		"forms":   {"", false, (*House).doForms},
		"say":     {"T", false, (*House).doSay},
		"accord":  {"TT", false, (*House).doAccord},
		"rhymes":  {"T", false, (*House).doRhymes},
		"scan":    {"NI", false, (*House).doScan},
		"check":   {"NN", false, (*House).doCheck},
		"which":   {"N", false, (*House).doWhich},
		"fill":    {"NNIN", false, (*House).doFill},
		"tally":   {"NI", false, (*House).doTally},
		"weigh":   {"N", false, (*House).doWeigh},
		"cosine":  {"NN", false, (*House).doCosine},
		"places":  {"T", false, (*House).doPlaces},
		"find":    {"T", false, (*House).doFind},
		"guess":   {"T", false, (*House).doGuess},
		"sort":    {"T*", false, (*House).doSort},
		"change":  {"NT", false, (*House).doChange},
		"between": {"NN", false, (*House).doBetween},
		"keep":    {"NTI", false, (*House).doKeep},
		"fork":    {"NTI", false, (*House).doFork},
		"weave":   {"NTTI", false, (*House).doWeave},
		"back":    {"NI", false, (*House).doBack},
		"witness": {"N*", false, (*House).doWitness},
		"page":    {"NIIII", false, (*House).doPage},
		"chant":   {"NIIIII", false, (*House).doChant},
		"round":   {"II", false, (*House).doRound},
	}
}

// kindsOf are the kinds of so many words of a command; false, if it has not so many.
func (c command) kindsOf(n int) (string, bool) {
	kinds, any := strings.CutSuffix(c.kinds, "*")
	if any {
		kinds = strings.Repeat(kinds, n)
	}
	return kinds, len(kinds) == n
}

// parse takes a line's words as those of one of the commands; what is wrong is told.
func parse(all map[string]command, line string) (command, asked, api.Errno) {
	words, e := Words(line)
	if e != api.OK || len(words) == 0 {
		return command{}, asked{}, e
	}
	c, ok := all[words[0]]
	words = words[1:]
	kinds, fits := c.kindsOf(len(words))
	if !ok || !fits {
		return command{}, asked{}, api.ErrCommand
	}
	a := asked{words: words, numbers: make([]int, len(words))}
	for k, w := range words {
		right := true
		switch kinds[k] {
		case 'N':
			right = w != "" && len(w) <= mostName
		case 'I':
			a.numbers[k], right = number(w)
		}
		if !right {
			return command{}, asked{}, api.ErrArg
		}
	}
	return c, a, api.OK
}

// Takes: P32.3.
func Takes(line string) bool {
	c, _, _ := parse(commands(), line)
	return c.lines
}

// silent tells whether a line says nothing: it has no words, or begins with #.
func silent(line string) bool {
	words, e := Words(line)
	return strings.HasPrefix(line, "#") || len(words) == 0 && e == api.OK
}

// Do: P32.4.
func (h *House) Do(line, lines string) (string, api.Errno) {
	if h == nil {
		return "", api.ErrNil
	}
	if silent(line) {
		return "", api.OK
	}
	return h.run(line, lines), api.OK
}

// run does a line; where it is given up the error's text is the answer.
func (h *House) run(line, lines string) (text string) {
	defer func() {
		given := recover()
		if given == nil {
			return
		}
		f, ok := given.(failure)
		if !ok {
			panic(given)
		}
		text = f.text
	}()
	c, a, e := parse(h.does, line)
	must(e)
	if c.lines {
		refuse(len(lines) > api.MaxText, api.ErrLong)
		a.lines = lines
	}
	return c.do(h, a)
}

// script is a script's lines, from one on.
type script struct {
	text string
	at   int
}

// next is the next line, and where it begins; false, if there is none.
func (s *script) next() (string, int, bool) {
	at := s.at
	if at >= len(s.text) {
		return "", at, false
	}
	line, _, _ := strings.Cut(s.text[at:], "\n")
	s.at += len(line) + 1
	return line, at, true
}

// taken are the lines of a command, up to a point; false, if none follows.
func (s *script) taken() (string, bool) {
	var out []byte
	for {
		line, _, ok := s.next()
		switch {
		case !ok:
			return "", false
		case line == ".":
			return string(out), true
		case strings.HasPrefix(line, ".."):
			line = line[1:]
		}
		out = append(append(out, line...), '\n')
	}
}

// Run: P32.6.
func Run(text string) (string, api.Spot) {
	if len(text) > api.MaxScript {
		return "", api.Spot{Err: api.ErrLong, At: api.MaxScript}
	}
	h := New()
	s := script{text: text}
	var out []byte
	for {
		line, at, ok := s.next()
		if !ok {
			return string(out), api.Spot{}
		}
		if silent(line) {
			continue
		}
		lines := ""
		if c, _, _ := parse(h.does, line); c.lines {
			if lines, ok = s.taken(); !ok {
				return string(out), api.Spot{Err: api.ErrOpen, At: at}
			}
		}
		if len(out) > api.MaxAnswers {
			return string(out), api.Spot{Err: api.ErrLong, At: at}
		}
		if a, _ := h.Do(line, lines); a != "" {
			out = append(append(out, a...), '\n')
		}
	}
}
