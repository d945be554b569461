package console

import (
	"strconv"
	"strings"

	"haywain/api"
	"haywain/row"
)

// words of a line that are left, to be taken one by one.
type words struct {
	left string
	more bool // is a word left? (It may be empty, and left with it.)
	bad  bool // one was missing, or wasn't what stands there
}

// wordsOf a line. Each blank parts two of them, so one may be empty: what it is taken for says whether it may.
func wordsOf(line string) *words { return &words{left: line, more: true} }

// done: were all of them taken, and was each what stands there?
func (l *words) done() bool { return !l.more && !l.bad }

// text: the next word, whatever it is.
func (l *words) text() string {
	if !l.more {
		l.bad = true
		return ""
	}
	word, left, more := strings.Cut(l.left, " ")
	l.left, l.more = left, more
	return word
}

// key: the row of the table that the next word means.
func (l *words) key() string { return row.Table(l.text()) }

// number that the next word is.
func (l *words) number() int {
	word := l.text()
	n, err := strconv.Atoi(word)
	// Told again it is the same text: it has no plus, and no noughts ahead.
	if err != nil || n < 0 || n > api.MaxNumber || strconv.Itoa(n) != word {
		l.bad = true
		return 0
	}
	return n
}

// rest: all behind the blank behind the last word that was taken, blanks and all.
func (l *words) rest() string {
	if !l.more {
		l.bad = true
		return ""
	}
	text := l.left
	l.left, l.more = "", false
	return text
}
