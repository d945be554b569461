// Package row: keys of rows, and what stands in them.
package row

import (
	"strconv"
	"strings"

	"haywain/api"
)

// The beginnings of keys, and how many digits a message's number has in one.
const (
	tableHead    = "t/"
	queueHead    = "q/"
	messageHead  = "m/"
	numberDigits = 6
)

// maxBody leaves room, in a row's value, for what stands ahead of a message's body.
const maxBody = api.MaxVal - 12

// Name: may a key of a table, or a queue, be called so?
func Name(s string) bool {
	if len(s) < 1 || len(s) > api.MaxName {
		return false
	}
	for i := range len(s) {
		if !isLetter(s[i]) && (i == 0 || !isDigit(s[i])) {
			return false
		}
	}
	return true
}

func isLetter(b byte) bool { return 'a' <= b && b <= 'z' }

func isDigit(b byte) bool { return '0' <= b && b <= '9' }

// Table: the row of a key of the table.
func Table(name string) string { return tableHead + name }

// Queue: the row of a queue.
func Queue(name string) string { return queueHead + name }

// Message: the row of a message.
func Message(queue string, n int) string {
	number := strconv.Itoa(max(n, 0) % (api.MaxNumber + 1))
	return messageHead + queue + "/" + strings.Repeat("0", numberDigits-len(number)) + number
}

// Messages of a queue: their rows.
func Messages(queue string) api.Span {
	// '0' is the byte next above '/': no key between has another beginning.
	return api.Span{From: messageHead + queue + "/", To: messageHead + queue + "0"}
}

// Check a key of a row.
func Check(key string) error {
	if isNamed(key, tableHead) || isNamed(key, queueHead) || isMessage(key) {
		return nil
	}
	return api.ErrShape
}

// isNamed: is a key this beginning and a name?
func isNamed(key, head string) bool {
	name, ok := strings.CutPrefix(key, head)
	return ok && Name(name)
}

// isMessage: is a key one of a message?
func isMessage(key string) bool {
	rest, ok := strings.CutPrefix(key, messageHead)
	if !ok {
		return false
	}
	queue, number, ok := strings.Cut(rest, "/")
	return ok && Name(queue) && isNumber(number)
}

// isNumber: does a text have just the digits of a message's number in its key?
func isNumber(s string) bool {
	if len(s) != numberDigits {
		return false
	}
	for i := range len(s) {
		if !isDigit(s[i]) {
			return false
		}
	}
	return true
}

// QueueText of a queue: what stands in its row.
func QueueText(q api.Queue) (string, error) {
	if !within(q.Next, 0, api.MaxNumber) || !within(q.Tries, 1, api.MaxTries) {
		return "", api.ErrBound
	}
	if q.Dead != "" && !Name(q.Dead) {
		return "", api.ErrShape
	}
	return joinFields(q.Next, q.Tries, q.Dead), nil
}

// ParseQueue: of a text.
func ParseQueue(s string) (api.Queue, error) {
	next, tries, dead := splitFields(s)
	q := api.Queue{Next: next, Tries: tries, Dead: dead}
	if text, err := QueueText(q); err != nil || text != s {
		return api.Queue{}, api.ErrText
	}
	return q, nil
}

// MessageText of a message: what stands in its row.
func MessageText(m api.Message) (string, error) {
	if !within(m.Tries, 0, api.MaxTries) || !within(m.Until, 0, 2*api.MaxTime) || len(m.Body) > maxBody {
		return "", api.ErrBound
	}
	return joinFields(m.Tries, m.Until, m.Body), nil
}

// ParseMessage: of a text, of the number n.
func ParseMessage(n int, s string) (api.Message, error) {
	tries, until, body := splitFields(s)
	m := api.Message{Number: n, Tries: tries, Until: until, Body: body}
	if text, err := MessageText(m); err != nil || text != s {
		return api.Message{}, api.ErrText
	}
	return m, nil
}

func within(n, least, most int) bool { return least <= n && n <= most }

// joinFields: two numbers and a text, with blanks between.
func joinFields(a, b int, rest string) string {
	return strconv.Itoa(a) + " " + strconv.Itoa(b) + " " + rest
}

// splitFields of what joinFields made. Of any other text it answers something:
// the caller finds out by joining it again, which gives another text.
func splitFields(s string) (int, int, string) {
	first, behind, _ := strings.Cut(s, " ")
	second, rest, _ := strings.Cut(behind, " ")
	a, _ := strconv.Atoi(first)
	b, _ := strconv.Atoi(second)
	return a, b, rest
}
