package wires

import (
	"iter"
	"strings"

	"gridworks/api"
)

// lines of a text: of each its number, from 1 on, and its words.
func lines(s string) iter.Seq2[int, []string] {
	return func(yield func(int, []string) bool) {
		rest, more := s, true
		for at := 1; more; at++ {
			var line string
			line, rest, more = strings.Cut(rest, "\n")
			said, _, _ := strings.Cut(line, "#")
			if !yield(at, strings.FieldsFunc(said, isBlank)) {
				return
			}
		}
	}
}

// isBlank: fewer runes part words than the library's blanks are.
func isBlank(r rune) bool { return r == 9 || r == 13 || r == 32 }

func isName(w string) bool {
	letters := 0
	for i, r := range w { // bytes that are no UTF-8 come as U+FFFD, which is no letter
		if !isLetter(r) && (i == 0 || !isDigit(r)) {
			return false
		}
		letters++
	}
	return letters >= 1 && letters <= api.MaxName
}

func isLetter(r rune) bool {
	switch {
	case 'a' <= r && r <= 'z', 'A' <= r && r <= 'Z', r == '_':
		return true
	}
	return 0xC0 <= r && r <= 0x24F && r != 0xD7 && r != 0xF7
}

func isDigit(r rune) bool { return '0' <= r && r <= '9' }

func isNumber(w string) bool {
	for _, r := range w {
		if !isDigit(r) {
			return false
		}
	}
	return len(w) >= 1 && len(w) <= 9
}

// wordsIn: how many words a line of this kind has; 0: there is no such kind.
func wordsIn(kind string) int {
	switch kind {
	case "net", "bus":
		return 2
	case "load":
		return 4
	case "tie":
		return 5
	case "line", "gen":
		return 6
	}
	return 0
}
