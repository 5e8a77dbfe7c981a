package shell

import (
	"strings"

	"retort/api"
)

const hexDigits = "0123456789abcdef"

func isBlank(c byte) bool { return c == ' ' || c == '\t' }

// Words takes a line to pieces.
func Words(line string) ([]string, api.Errno) {
	var words []string
	rest := line
pieces:
	for rest != "" {
		var word string
		var right bool
		switch c := rest[0]; {
		case isBlank(c):
			rest = rest[1:]
			continue pieces
		case c == '#':
			break pieces
		case c == '"':
			word, rest, right = quoted(rest[1:])
		default:
			word, rest, right = bare(rest)
		}
		if !right {
			return nil, api.ErrWord
		}
		words = append(words, word)
	}
	return words, api.OK
}

// parted tells whether a word could end ahead of that.
func parted(rest string) bool { return rest == "" || isBlank(rest[0]) }

// bare tells the word that a text begins with, what stands behind it, and whether it may stand there.
func bare(text string) (word, rest string, right bool) {
	n := 0
	for n < len(text) && !isBlank(text[n]) && text[n] != '"' {
		n++
	}
	rest = text[n:]
	return strings.Clone(text[:n]), rest, parted(rest)
}

// quoted is likewise for a word whose first sign, the `"`, stands ahead of the text.
func quoted(text string) (word, rest string, right bool) {
	var b []byte
	for rest = text; rest != "" && rest[0] != '"'; {
		c, n := meant(rest)
		if n == 0 {
			return "", rest, false
		}
		b = append(b, c)
		rest = rest[n:]
	}
	if rest == "" {
		return "", rest, false
	}
	rest = rest[1:]
	return string(b), rest, parted(rest)
}

// meant tells the byte that the front of a text stands for in a quoted word, and how many bytes that front has; 0: it stands for none.
func meant(text string) (byte, int) {
	if text[0] != '\\' {
		return text[0], 1
	}
	if len(text) < 2 {
		return 0, 0
	}
	switch c := text[1]; c {
	case '\\', '"':
		return c, 2
	case 'n':
		return '\n', 2
	case 't':
		return '\t', 2
	case 'x':
		return hexByte(text)
	}
	return 0, 0
}

// hexByte is meant of a text that begins with `\x`.
func hexByte(text string) (byte, int) {
	const size = len(`\xHH`)
	if len(text) < size {
		return 0, 0
	}
	high, low := strings.IndexByte(hexDigits, text[2]), strings.IndexByte(hexDigits, text[3])
	if high < 0 || low < 0 {
		return 0, 0
	}
	return byte(high<<4 | low), size
}

// Quote writes bytes as a word.
func Quote(b []byte) string {
	q := []byte{'"'}
	for _, c := range b {
		switch {
		case c == '\\' || c == '"':
			q = append(q, '\\', c)
		case c == '\n':
			q = append(q, '\\', 'n')
		case c == '\t':
			q = append(q, '\\', 't')
		case c < ' ' || c > '~':
			q = append(q, '\\', 'x', hexDigits[c>>4], hexDigits[c&15])
		default:
			q = append(q, c)
		}
	}
	q = append(q, '"')
	return string(q)
}
