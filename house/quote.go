package house

import (
	"math"
	"strconv"
	"strings"

	"canticle/api"
)

const hexDigits = "0123456789abcdef"

// hidden tells whether a rune's form is quoted byte by byte: ends of lines and what is not seen.
func hidden(r rune) bool {
	switch {
	case r == '\t':
		return false
	case r < 0x20, r >= 0x7F && r <= 0x9F, r >= 0x200B && r <= 0x200F, r == 0xFEFF:
		return true
	}
	return false
}

// Quote: P32.1.
func Quote(s string) string {
	out := []byte{'"'}
	for at, r := range s {
		n := len(string(r))
		broken := r == 0xFFFD && !strings.HasPrefix(s[at:], "\ufffd")
		if broken {
			n = 1
		}
		switch {
		case r == '"' || r == '\\':
			out = append(out, '\\', byte(r))
		case r == '\n':
			out = append(out, '\\', 'n')
		case broken || hidden(r):
			for k := range n {
				out = append(out, '\\', 'x', hexDigits[s[at+k]>>4], hexDigits[s[at+k]&0xF])
			}
		default:
			out = append(out, s[at:at+n]...)
		}
	}
	return string(append(out, '"'))
}

// Unquote: P32.1.
func Unquote(s string) (string, bool) {
	if len(s) < 2 || s[0] != '"' || s[len(s)-1] != '"' {
		return "", false
	}
	var out []byte
	for s = s[1 : len(s)-1]; s != ""; {
		b, n := unquoted(s)
		if n == 0 {
			return "", false
		}
		out, s = append(out, b), s[n:]
	}
	return string(out), true
}

// unquoted is the first byte that quoted bytes say, and how many bytes say it; 0, if none is said.
func unquoted(s string) (byte, int) {
	switch {
	case s[0] == '"' || s[0] == '\n':
		return 0, 0
	case s[0] != '\\':
		return s[0], 1
	case len(s) < 2:
		return 0, 0
	}
	switch s[1] {
	case '"', '\\':
		return s[1], 2
	case 'n':
		return '\n', 2
	case 'x':
		if len(s) < 4 {
			return 0, 0
		}
		a, b := strings.IndexByte(hexDigits, s[2]), strings.IndexByte(hexDigits, s[3])
		if a >= 0 && b >= 0 {
			return byte(a<<4 | b), 4
		}
	}
	return 0, 0
}

// Words: P32.2.
func Words(line string) ([]string, api.Errno) {
	var l []string
	for {
		for line != "" && line[0] == ' ' {
			line = line[1:]
		}
		if line == "" {
			return l, api.OK
		}
		if line[0] != '"' {
			word, _, _ := strings.Cut(line, " ")
			l = append(l, word)
			line = line[len(word):]
			continue
		}
		n := quoted(line)
		word, ok := Unquote(line[:n])
		if !ok || n < len(line) && line[n] != ' ' {
			return nil, api.ErrWords
		}
		l = append(l, word)
		line = line[n:]
	}
}

// quoted is how many bytes a quoted word has with which a line begins; 0, if it has no end.
func quoted(line string) int {
	for k := 1; k < len(line); k++ {
		switch line[k] {
		case '\\':
			k++
		case '"':
			return k + 1
		}
	}
	return 0
}

// number is the number of a word; false, if it is none.
func number(word string) (int, bool) {
	n, err := strconv.Atoi(word)
	return n, err == nil && strconv.Itoa(n) == word && len(strings.TrimPrefix(word, "-")) <= 18
}

// float is a float's text.
func float(x float64) string {
	switch {
	case x != x:
		return "nan"
	case x == 0:
		x = 0
	}
	text := strconv.FormatUint(math.Float64bits(x), 16)
	return strings.Repeat("0", 16-len(text)) + text
}
