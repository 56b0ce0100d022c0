package vpath

import (
	"iter"
	"strings"

	"veneer/api"
)

// What a byte is in a path's text.
const (
	foreign = iota // it may not be there
	stroke
	named // a name may have it
)

// kind: what a byte is.
func kind(c byte) int {
	switch {
	case 'a' <= c && c <= 'z':
		fallthrough
	case 'A' <= c && c <= 'Z':
		fallthrough
	case '0' <= c && c <= '9':
		fallthrough
	case c == '.' || c == '_' || c == '-':
		return named
	case c == '/':
		return stroke
	}
	return foreign
}

// isText: whether s begins as a path's text does, and has no other bytes than one may have.
func isText(s string) bool {
	if s == "" || kind(s[0]) != stroke {
		return false
	}
	for i := range len(s) {
		if kind(s[i]) == foreign {
			return false
		}
	}
	return true
}

// isName: whether s is a name.
func isName(s string) bool {
	if s == "" || s == "." || s == ".." || len(s) > api.MaxName {
		return false
	}
	for i := range len(s) {
		if kind(s[i]) != named {
			return false
		}
	}
	return true
}

// pieces: what stands between the strokes of s, from the left, empty pieces too.
func pieces(s string) iter.Seq[string] {
	return func(yield func(string) bool) {
		rest, more := s, true
		for more {
			var piece string
			piece, rest, more = strings.Cut(rest, "/")
			if !yield(piece) {
				return
			}
		}
	}
}

// step: the names behind one more piece.
func step(names []string, piece string) []string {
	switch piece {
	case "", ".":
		return names
	case "..":
		return names[:max(len(names)-1, 0)] // at the root there is none to take away
	}
	return append(names, piece)
}
