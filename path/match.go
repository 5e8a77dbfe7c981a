package path

import (
	"strings"

	"retort/api"
)

// The marks of a pattern.
const (
	anyNames  = "**"
	anyPieces = "*"
	onePiece  = "?"
)

// Match tells whether a clean path is of a pattern.
func Match(pattern, p string) (bool, api.Errno) {
	if len(pattern) > api.MaxPath || len(p) > api.MaxPath {
		return false, api.ErrLong
	}
	for part := range Names(pattern) {
		if part == "" || part != anyNames && strings.Contains(part, anyNames) {
			return false, api.ErrGlob
		}
	}
	if !IsClean(p) {
		return false, api.ErrName
	}
	return goesThrough(words(pattern), words(p), word.isAnyNames, word.takes), api.OK
}

// word is a part of a pattern, or a name.
type word struct {
	text   string
	pieces []string
}

// words tells a text's parts, their pieces made once for all the places at which they are tried.
func words(s string) []word {
	var row []word
	for part := range Names(s) {
		row = append(row, word{part, pieces(part)})
	}
	return row
}

// pieces parts a text that is not empty where its runes begin. The runes themselves would not do: all bytes that begin none are one and the same.
func pieces(s string) []string {
	var row []string
	from := 0
	for at := range s {
		if at > from {
			row = append(row, s[from:at])
			from = at
		}
	}
	return append(row, s[from:])
}

func (w word) isAnyNames() bool { return w.text == anyNames }

// takes tells whether a name is of the part w.
func (w word) takes(name word) bool {
	return goesThrough(w.pieces, name.pieces, isAnyPieces, takesPiece)
}

func isAnyPieces(piece string) bool { return piece == anyPieces }

func takesPiece(want, piece string) bool { return want == onePiece || want == piece }

// goesThrough tells whether the marks take a whole row, one element each, but for those that are loose, which take any number.
func goesThrough[E any](marks, row []E, loose func(E) bool, takes func(mark, one E) bool) bool {
	m, k := 0, 0
	// Behind the last loose mark, and behind what it takes. A later try of one ahead of it could but leave less of the row, so that only the last one is tried anew.
	again, from := 0, len(row)
search:
	for m < len(marks) || k < len(row) {
		switch {
		case m < len(marks) && loose(marks[m]):
			m++
			again, from = m, k
		case m < len(marks) && k < len(row) && takes(marks[m], row[k]):
			m, k = m+1, k+1
		case from < len(row):
			from++
			m, k = again, from
		default:
			break search
		}
	}
	return m == len(marks) && k == len(row)
}
