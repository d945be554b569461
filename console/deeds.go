package console

import (
	"strconv"
	"strings"

	"haywain/api"
	"haywain/queue"
	"haywain/view"
)

func get(w *view.View, l *words) (string, error) {
	key := l.key()
	if !l.done() {
		return "", api.ErrText
	}
	val, is, err := w.Get(key)
	if err != nil {
		return "", err
	}
	if !is {
		return "none", nil
	}
	return "is " + val, nil
}

func put(w *view.View, l *words) (string, error) {
	key, val := l.key(), l.rest()
	if !l.done() {
		return "", api.ErrText
	}
	return okOr(w.Put(key, val))
}

// remove a row: the line delete.
func remove(w *view.View, l *words) (string, error) {
	key := l.key()
	if !l.done() {
		return "", api.ErrText
	}
	return okOr(w.Delete(key))
}

func scan(w *view.View, l *words) (string, error) {
	from, to, most := l.key(), l.key(), l.number()
	if !l.done() {
		return "", api.ErrText
	}
	rows, err := w.Scan(api.Span{From: from, To: to}, most)
	if err != nil {
		return "", err
	}
	return listText(rows, rowText), nil
}

// create a queue: the line queue.
func create(w *view.View, l *words) (string, error) {
	name, tries, dead := l.text(), l.number(), ""
	if l.more {
		dead = l.text()
	}
	if !l.done() {
		return "", api.ErrText
	}
	return okOr(queue.Create(w, name, tries, dead))
}

func send(w *view.View, l *words, now int) (string, error) {
	name, body := l.text(), l.rest()
	if !l.done() {
		return "", api.ErrText
	}
	n, err := queue.Send(w, name, body, now)
	if err != nil {
		return "", err
	}
	return strconv.Itoa(n), nil
}

func receive(w *view.View, l *words, now int) (string, error) {
	name, long := l.text(), l.number()
	if !l.done() {
		return "", api.ErrText
	}
	m, err := queue.Receive(w, name, now, long)
	if err != nil {
		return "", err
	}
	return messageText(m), nil
}

func ack(w *view.View, l *words) (string, error) {
	name, n, tries := l.text(), l.number(), l.number()
	if !l.done() {
		return "", api.ErrText
	}
	return okOr(queue.Ack(w, name, n, tries))
}

func wait(w *view.View, l *words) (string, error) {
	name, n, tries, until := l.text(), l.number(), l.number(), l.number()
	if !l.done() {
		return "", api.ErrText
	}
	return okOr(queue.Wait(w, name, n, tries, until))
}

func messages(w *view.View, l *words) (string, error) {
	name := l.text()
	if !l.done() {
		return "", api.ErrText
	}
	found, err := queue.Messages(w, name)
	if err != nil {
		return "", err
	}
	return listText(found, messageText), nil
}

func rowText(r api.Row) string { return r.Key + " " + r.Val }

func messageText(m api.Message) string {
	return strconv.Itoa(m.Number) + " " + strconv.Itoa(m.Tries) + " " + strconv.Itoa(m.Until) + " " + m.Body
}

// listText of things, by the text of one.
func listText[T any](l []T, text func(T) string) string {
	if len(l) == 0 {
		return "-"
	}
	var texts []string
	for _, x := range l {
		texts = append(texts, text(x))
	}
	return strings.Join(texts, "; ")
}
