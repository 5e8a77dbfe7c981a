package tongue

import "retort/api"

func isLetter(c byte) bool {
	return 'a' <= c && c <= 'z' || 'A' <= c && c <= 'Z' || c == '_'
}

func isDigit(c byte) bool { return '0' <= c && c <= '9' }

// rowEnd is how many letters, digits and `_` a text begins with.
func rowEnd(text string) int {
	n := 0
	for n < len(text) && (isLetter(text[n]) || isDigit(text[n])) {
		n++
	}
	return n
}

// isWord tells whether something may have that name.
func isWord(text string) bool {
	return text != "" && isLetter(text[0]) && rowEnd(text) == len(text) && len(text) <= api.MaxName && !isKept(text)
}

func isKept(text string) bool {
	switch text {
	case "text", "func", "if", "else", "while", "break", "continue", "return", "abort", "do",
		"word", "byte", "size", "root", "float", "int",
		"open", "read", "write", "list", "close":
		return true
	}
	return false
}
