package shell

import (
	"slices"
	"strings"

	"retort/api"
	"retort/sum"
)

// What a word behind a command's name is.
const (
	aNumber = 'n'
	aName   = 'a'
	aRef    = 'r'
	aWord   = 'w' // any
)

const (
	mostDigits  = 15
	mostLetters = 8
)

// command is one that a line may begin with.
type command struct {
	name  string
	signs string // what the words behind it are, one sign each
	more  bool   // any number of other words may stand behind these
	do    func(g given) *reply
}

// given is what the words behind a command's name say, by their kinds.
type given struct {
	numbers []int
	name    string
	refs    []string
	digests []api.Digest // those of the refs
	words   []string
}

// number reads one, and tells whether it is one in form.
func number(word string) (int, bool) {
	digits, below := strings.CutPrefix(word, "-")
	if digits == "" || len(digits) > mostDigits {
		return 0, false
	}
	n := 0
	for _, c := range []byte(digits) {
		if c < '0' || c > '9' {
			return 0, false
		}
		n = 10*n + int(c-'0')
	}
	if below {
		return -n, n != 0
	}
	return n, true
}

func isName(word string) bool {
	return word != "" && len(word) <= mostLetters && !slices.ContainsFunc([]byte(word), isNoLetter)
}

func isNoLetter(c byte) bool { return c < 'a' || c > 'z' }

func isRef(word string) bool {
	_, e := sum.Parse(word)
	return e == api.OK || isName(word)
}

// take takes one more word, and tells whether it is what its sign asks.
func (g *given) take(sign byte, word string) bool {
	switch sign {
	case aNumber:
		n, right := number(word)
		g.numbers = append(g.numbers, n)
		return right
	case aName:
		g.name = word
		return isName(word)
	case aRef:
		g.refs = append(g.refs, word)
		return isRef(word)
	}
	g.words = append(g.words, word)
	return true
}

// read tells what the words behind the command's name say, and whether they are what it asks.
func (c command) read(words []string) (given, bool) {
	var g given
	if len(words) < len(c.signs) || len(words) > len(c.signs) && !c.more {
		return g, false
	}
	for i, word := range words {
		sign := byte(aWord)
		if i < len(c.signs) {
			sign = c.signs[i]
		}
		if !g.take(sign, word) {
			return g, false
		}
	}
	return g, true
}
