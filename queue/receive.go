package queue

import (
	"strconv"
	"strings"

	"haywain/api"
	"haywain/row"
	"haywain/view"
)

// Receive the first message that waits for nobody, for so long.
func Receive(w *view.View, name string, now, long int) (api.Message, error) {
	q, err := Find(w, name)
	if err != nil {
		return api.Message{}, err
	}
	if !isTime(now) || !isTime(long) {
		return api.Message{}, api.ErrBound
	}
	return whole(w, func() (api.Message, error) { return takeUp(w, name, q, now, now+long) })
}

// takeUp the first message whose time has come, till another time.
// Those ahead of it that were tried as often as may be go where the queue says.
func takeUp(w *view.View, name string, q api.Queue, now, until int) (api.Message, error) {
	rest := row.Messages(name)
	for {
		r, err := first(w, rest)
		if err != nil {
			return api.Message{}, err
		}
		// By the row's key, not by a number made of it: so the rest grows less each time.
		rest.From = r.Key + "\x00"
		m, err := parse(r)
		if err != nil {
			return api.Message{}, err
		}
		if m.Until > now {
			continue
		}
		if m.Tries < q.Tries {
			m.Tries, m.Until = m.Tries+1, until
			return m, putMessage(w, name, m)
		}
		if err := bury(w, r.Key, q.Dead, m.Body); err != nil {
			return api.Message{}, err
		}
	}
}

// first row of a span. One by one, and no more than are looked at,
// so that who changes a message further behind is in nobody's way.
func first(w *view.View, s api.Span) (api.Row, error) {
	rows, err := w.Scan(s, 1)
	if err != nil {
		return api.Row{}, err
	}
	if len(rows) == 0 {
		return api.Row{}, api.ErrEmpty
	}
	return rows[0], nil
}

// parse the row of a message.
func parse(r api.Row) (api.Message, error) {
	digits := r.Key[strings.LastIndexByte(r.Key, '/')+1:]
	n, _ := strconv.Atoi(digits) // a row of a message has digits there
	return row.ParseMessage(n, r.Val)
}

// bury a message: its row is gone, and its body goes to the queue dead, if there is to be one.
func bury(w *view.View, key, dead, body string) error {
	if err := w.Delete(key); err != nil {
		return err
	}
	if dead == "" {
		return nil
	}
	q, err := Find(w, dead)
	if err != nil {
		return err
	}
	_, err = add(w, dead, q, body, 0)
	return err
}

// Ack a message: it is no more.
func Ack(w *view.View, name string, n, tries int) error {
	if _, err := held(w, name, n, tries); err != nil {
		return err
	}
	return w.Delete(row.Message(name, n))
}

// Wait: a message that was received waits till a time.
func Wait(w *view.View, name string, n, tries, until int) error {
	m, err := held(w, name, n, tries)
	if err != nil {
		return err
	}
	if !isTime(until) {
		return api.ErrBound
	}
	m.Until = until
	return putMessage(w, name, m)
}

// held: the message of that number, if who was told it by so many tries is still the last one who was.
func held(w *view.View, name string, n, tries int) (api.Message, error) {
	if _, err := Find(w, name); err != nil {
		return api.Message{}, err
	}
	if n < 0 || n > api.MaxNumber || tries < 1 {
		return api.Message{}, api.ErrBound
	}
	text, is, err := w.Get(row.Message(name, n))
	if err != nil {
		return api.Message{}, err
	}
	if !is {
		return api.Message{}, api.ErrLate
	}
	m, err := row.ParseMessage(n, text)
	if err != nil {
		return api.Message{}, err
	}
	if m.Tries != tries {
		return api.Message{}, api.ErrLate
	}
	return m, nil
}
