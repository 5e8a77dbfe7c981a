package tongue

import (
	"errors"
	"strconv"
	"strings"

	"retort/api"
)

// Kinds of pieces.
const (
	noPiece     = iota // bytes that are none, or what stands behind a fault: it fits nowhere
	endPiece           // the text's end
	namePiece          // a word that is not kept
	fixedPiece         // a kept word or a sign: its text says which
	numberPiece        // n is what it says
	stringPiece        // its text is what it stands for
)

// piece is one part of a text, with its place and the one behind it.
type piece struct {
	kind, at, end int
	text          string
	n             int
	far           bool // no int is so great: then n counts for nothing
}

// pieceAt tells the first piece from a place on.
func pieceAt(text string, at int) piece {
	at = blanksEnd(text, at)
	p := piece{at: at}
	rest := text[at:]
	long := 0
	switch {
	case rest == "":
		p.kind = endPiece
	case isLetter(rest[0]):
		long = p.word(rest)
	case isDigit(rest[0]):
		long = p.number(rest)
	case rest[0] == '"':
		long = p.quoted(rest)
	default:
		long = p.sign(rest)
	}
	p.end = at + long
	return p
}

// blanksEnd is the place behind the blanks and remarks from a place on.
func blanksEnd(text string, at int) int {
	for at < len(text) {
		switch {
		case strings.IndexByte("\t\n\r ", text[at]) >= 0:
			at++
		case strings.HasPrefix(text[at:], "//"):
			long := strings.IndexByte(text[at:], '\n')
			if long < 0 {
				return len(text)
			}
			at += long
		default:
			return at
		}
	}
	return at
}

// word reads the row that a text begins with, and tells how long it is; so do those below.
func (p *piece) word(text string) int {
	long := rowEnd(text)
	p.text = text[:long]
	switch {
	case isKept(p.text):
		p.kind = fixedPiece
	case long <= api.MaxName:
		p.kind = namePiece
	}
	return long
}

const (
	digits    = "0123456789"
	hexDigits = "0123456789abcdef"
	mostHex   = 16
)

// madeOf tells whether a text is one at least of those signs, and nothing else.
func madeOf(text, signs string) bool {
	return text != "" && strings.Trim(text, signs) == ""
}

// number looks at the digits apart from strconv, which takes capitals too.
func (p *piece) number(text string) int {
	long := rowEnd(text)
	text = text[:long]
	if bits, is := strings.CutPrefix(text, "0x"); is && len(bits) <= mostHex && madeOf(bits, hexDigits) {
		u, _ := strconv.ParseUint(bits, 16, 64)
		p.kind, p.n = numberPiece, int(u)
	}
	if madeOf(text, digits) {
		n, err := strconv.ParseInt(text, 10, 64)
		p.kind, p.n, p.far = numberPiece, int(n), errors.Is(err, strconv.ErrRange)
	}
	return long
}

func (p *piece) quoted(text string) int {
	var b []byte
	at := 1
	for at < len(text) && text[at] != '"' {
		c, long := quotedByte(text[at:])
		if long == 0 {
			return 0
		}
		b = append(b, c)
		at += long
	}
	if at == len(text) {
		return 0
	}
	p.kind, p.text = stringPiece, string(b)
	return at + 1
}

// quotedByte reads the first byte that stands in a string, and how many it takes there; 0: it is none.
func quotedByte(text string) (byte, int) {
	switch {
	case text[0] < ' ' || text[0] > '~':
		return 0, 0
	case text[0] != '\\':
		return text[0], 1
	case strings.HasPrefix(text, `\"`) || strings.HasPrefix(text, `\\`):
		return text[1], 2
	case strings.HasPrefix(text, `\x`) && len(text) >= 4 && madeOf(text[2:4], hexDigits):
		n, _ := strconv.ParseUint(text[2:4], 16, 8)
		return byte(n), 4
	}
	return 0, 0
}

// longestSign is how many bytes a sign has at most.
const longestSign = 3

func (p *piece) sign(text string) int {
	for long := min(longestSign, len(text)); long > 0; long-- {
		if isSign(text[:long]) {
			p.kind, p.text = fixedPiece, text[:long]
			return long
		}
	}
	return 0
}
