package asm

import (
	"errors"
	"strconv"
	"strings"
)

// Kinds of pieces.
const (
	word = iota
	number
	quoted
	colon
)

// piece is one part of a line.
type piece struct {
	kind int
	text string // a word, or the bytes that a string stands for
	n    int    // what a number says
	far  bool   // no int is so great, or so small: then n counts for nothing
}

// Where in a line a cutter is. From inString on a `;` is no comment.
const (
	apart  = iota // any piece may begin
	behind        // right behind a word, a number, a string: none of these may begin
	inWord
	inNumber
	inString
	inEscape // behind a `\`
	inHigh   // behind `\x`
	inLow    // behind the first digit of a byte
)

// cutter cuts a line into its pieces.
type cutter struct {
	pieces []piece
	state  int
	under  []byte // of the piece under way
	high   int    // the first digit of a byte
}

// cut tells the pieces of a line, its comment left out, and whether there is nothing else in it.
func cut(line string) ([]piece, bool) {
	c := &cutter{}
	for _, r := range line {
		if r == ';' && c.state < inString {
			break
		}
		if !c.take(r) {
			return nil, false
		}
	}
	right := c.end() // ahead of the pieces, behind which it may lay the last one
	return c.pieces, right
}

func (c *cutter) take(r rune) bool {
	switch c.state {
	case inWord, inNumber:
		if goesOn(r) {
			c.grow(r)
			return true
		}
		return c.end() && c.begin(r)
	case inString:
		return c.within(r)
	case inEscape:
		return c.escaped(r)
	case inHigh, inLow:
		return c.byteDigit(r)
	}
	return c.begin(r)
}

func isLetter(r rune) bool {
	return 'a' <= r && r <= 'z' || 'A' <= r && r <= 'Z' || r == '_'
}

func isDigit(r rune) bool { return '0' <= r && r <= '9' }

// goesOn tells whether a word or a number goes on with that.
func goesOn(r rune) bool { return isLetter(r) || isDigit(r) }

func (c *cutter) grow(r rune) { c.under = append(c.under, byte(r)) }

// begin takes what stands in no piece: a blank, a `:`, or a piece's beginning.
func (c *cutter) begin(r rune) bool {
	switch {
	case r == '\t' || r == '\r' || r == ' ':
		c.state = apart
		return true
	case r == ':':
		c.pieces = append(c.pieces, piece{kind: colon})
		c.state = apart
		return true
	case c.state == behind:
		return false
	case r == '"':
		c.state = inString
		return true
	case isLetter(r):
		c.state = inWord
	case isDigit(r) || r == '-':
		c.state = inNumber
	default:
		return false
	}
	c.grow(r)
	return true
}

// within takes what stands in a string.
func (c *cutter) within(r rune) bool {
	switch {
	case r == '"':
		c.close(piece{kind: quoted, text: string(c.under)})
	case r == '\\':
		c.state = inEscape
	case r < ' ' || r > '~':
		return false
	default:
		c.grow(r)
	}
	return true
}

func (c *cutter) escaped(r rune) bool {
	switch r {
	case '"', '\\':
		c.grow(r)
		c.state = inString
	case 'x':
		c.state = inHigh
	default:
		return false
	}
	return true
}

func (c *cutter) byteDigit(r rune) bool {
	n := strings.IndexRune(hexDigits, r)
	switch {
	case n < 0:
		return false
	case c.state == inHigh:
		c.high = n
		c.state = inLow
	default:
		c.under = append(c.under, byte(c.high<<4|n))
		c.state = inString
	}
	return true
}

// close lays down the piece that was under way.
func (c *cutter) close(p piece) {
	c.pieces = append(c.pieces, p)
	c.under = nil
	c.state = behind
}

// end closes a word or a number that is under way, and tells whether a line could end here.
func (c *cutter) end() bool {
	switch c.state {
	case inWord:
		c.close(piece{kind: word, text: string(c.under)})
	case inNumber:
		p, right := numbered(string(c.under))
		c.close(p)
		return right
	}
	return c.state < inString
}

const (
	hexDigits = "0123456789abcdef"
	digits    = "0123456789"
	mostHex   = 16
)

// numbered reads a number, and tells whether it is one in form. Its signs are looked at apart from strconv, which takes capitals too, and stops where a number is too great, whatever stands behind.
func numbered(text string) (piece, bool) {
	if bits, is := strings.CutPrefix(text, "0x"); is {
		u, _ := strconv.ParseUint(bits, 16, 64)
		return piece{kind: number, n: int(u)}, len(bits) <= mostHex && madeOf(bits, hexDigits)
	}
	n, err := strconv.ParseInt(text, 10, 64)
	far := errors.Is(err, strconv.ErrRange)
	return piece{kind: number, n: int(n), far: far}, madeOf(strings.TrimPrefix(text, "-"), digits)
}

// madeOf tells whether a text is one at least of those signs, and nothing else.
func madeOf(text, signs string) bool {
	return text != "" && strings.Trim(text, signs) == ""
}
