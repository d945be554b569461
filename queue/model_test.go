package queue_test

import (
	"fmt"
	"maps"
	"slices"
	"strconv"
	"testing"

	"haywain/api"
	"haywain/certify"
	"haywain/queue"
	"haywain/row"
	"haywain/versions"
	"haywain/view"
)

// die: numbers that look drawn, the same each time.
type die uint64

func (d *die) n(most int) int {
	*d = *d*6364136223846793005 + 1442695040888963407
	return int(uint64(*d>>33) % uint64(most))
}

// act: a call, and what it is given.
type act struct {
	what, name, body, dead string
	n, tries, until        int
	now, long              int
}

// on a view: what it answers.
func (a act) on(w *view.View) string {
	switch a.what {
	case "create":
		return fmt.Sprint(queue.Create(w, a.name, a.tries, a.dead))
	case "send":
		return fmt.Sprint(queue.Send(w, a.name, a.body, a.until))
	case "receive":
		return fmt.Sprint(queue.Receive(w, a.name, a.now, a.long))
	case "ack":
		return fmt.Sprint(queue.Ack(w, a.name, a.n, a.tries))
	case "wait":
		return fmt.Sprint(queue.Wait(w, a.name, a.n, a.tries, a.until))
	}
	return fmt.Sprint(queue.Messages(w, a.name))
}

// plain: queues as one alone has them, without rows; and which rows a deed would have changed.
type plain struct {
	queues  map[string]*plainQueue
	changed map[string]bool
}

type plainQueue struct {
	next, tries int
	dead        string
	waiting     map[int]api.Message
}

func newPlain() *plain {
	return &plain{queues: map[string]*plainQueue{}, changed: map[string]bool{}}
}

func (p *plain) clone() *plain {
	c := newPlain()
	maps.Copy(c.changed, p.changed)
	for name, q := range p.queues {
		x := *q
		x.waiting = maps.Clone(q.waiting)
		c.queues[name] = &x
	}
	return c
}

// touch a row.
func (p *plain) touch(key string) error {
	p.changed[key] = true
	if len(p.changed) > 12 {
		return api.ErrMany
	}
	return nil
}

func (p *plain) send(name, body string, until int) (int, error) {
	q := p.queues[name]
	if q == nil {
		return 0, api.ErrNone
	}
	n := q.next
	q.waiting[n] = api.Message{Number: n, Until: until, Body: body}
	q.next++
	if err := p.touch(row.Message(name, n)); err != nil {
		return 0, err
	}
	return n, p.touch(row.Queue(name))
}

func (p *plain) receive(name string, now, long int) (api.Message, error) {
	q := p.queues[name]
	if q == nil {
		return api.Message{}, api.ErrNone
	}
	for _, n := range slices.Sorted(maps.Keys(q.waiting)) {
		m := q.waiting[n]
		if m.Until > now {
			continue
		}
		if err := p.touch(row.Message(name, n)); err != nil {
			return api.Message{}, err
		}
		if m.Tries < q.tries {
			m.Tries, m.Until = m.Tries+1, now+long
			q.waiting[n] = m
			return m, nil
		}
		delete(q.waiting, n)
		if q.dead != "" {
			if _, err := p.send(q.dead, m.Body, 0); err != nil {
				return api.Message{}, err
			}
		}
	}
	return api.Message{}, api.ErrEmpty
}

// settle: a message is taken, or waits till a time.
func (p *plain) settle(a act) error {
	q := p.queues[a.name]
	if q == nil {
		return api.ErrNone
	}
	m, is := q.waiting[a.n]
	if a.tries < 1 {
		return api.ErrBound
	}
	if !is || m.Tries != a.tries {
		return api.ErrLate
	}
	delete(q.waiting, a.n)
	if a.what == "wait" {
		m.Until = a.until
		q.waiting[a.n] = m
	}
	return p.touch(row.Message(a.name, a.n))
}

func (p *plain) create(a act) error {
	switch {
	case p.queues[a.name] != nil:
		return api.ErrExist
	case a.dead == a.name:
		return api.ErrShape
	case a.dead != "" && p.queues[a.dead] == nil:
		return api.ErrNone
	case a.tries < 1:
		return api.ErrBound
	}
	p.queues[a.name] = &plainQueue{tries: a.tries, dead: a.dead, waiting: map[int]api.Message{}}
	return p.touch(row.Queue(a.name))
}

func (p *plain) messages(name string) ([]api.Message, error) {
	q := p.queues[name]
	if q == nil {
		return nil, api.ErrNone
	}
	var l []api.Message
	for _, n := range slices.Sorted(maps.Keys(q.waiting)) {
		l = append(l, q.waiting[n])
	}
	return l, nil
}

// do what the act says, whole or not at all: what it answers.
func (p *plain) do(a act) string {
	before := p.clone()
	var told []any
	var err error
	switch a.what {
	case "create":
		err = p.create(a)
	case "send":
		var n int
		n, err = p.send(a.name, a.body, a.until)
		told = []any{n}
	case "receive":
		var m api.Message
		m, err = p.receive(a.name, a.now, a.long)
		told = []any{m}
	case "ack", "wait":
		err = p.settle(a)
	default:
		var l []api.Message
		l, err = p.messages(a.name)
		told = []any{l}
	}
	if err != nil {
		*p = *before
		switch a.what {
		case "send":
			told = []any{0}
		case "receive":
			told = []any{api.Message{}}
		}
	}
	return fmt.Sprint(append(told, err)...)
}

// draw an act at a time.
func draw(d *die, now int) act {
	a := act{name: []string{"a", "a", "a", "b", "c"}[d.n(5)], n: d.n(6), tries: d.n(4), now: now, long: d.n(4), until: now + d.n(3)}
	a.what = []string{"send", "send", "receive", "receive", "receive", "ack", "ack", "wait", "messages", "create"}[d.n(10)]
	a.body = []string{"hay", "oats", "", "a b"}[d.n(4)]
	a.dead = []string{"", "a", "b", "c"}[d.n(4)]
	return a
}

// TestAgainstPlainQueues: whatever is done, deed behind deed, the answers are those of queues without rows.
func TestAgainstPlainQueues(t *testing.T) {
	d := die(10)
	answers := map[string]int{}
	for range 400 {
		v, p := versions.New(nil), newPlain()
		for now := range 40 {
			w, before := view.New(v), p.clone()
			// So few acts that no deed reads too much.
			for range 1 + d.n(6) {
				a := draw(&d, now)
				got, want := a.on(w), p.do(a)
				if got != want {
					t.Fatalf("K1 to K5: %+v: %s, not %s", a, got, want)
				}
				answers[a.what+" "+got[max(0, len(got)-2):]]++
			}
			if keys := slices.Sorted(maps.Keys(p.changed)); !slices.Equal(keys, keysOf(w.Changes())) {
				t.Fatalf("K1 to K5: %q are changed, not %q", keysOf(w.Changes()), keys)
			}
			if d.n(8) == 0 {
				p = before // what is aborted was not
				continue
			}
			p.changed = map[string]bool{}
			if _, err := v.Commit(w.Changes()); err != nil {
				t.Fatal(err)
			}
		}
	}
	for _, often := range []string{"receive l>", "receive 12", "receive  2", "send l>", "send  2", "ack l>", "ack 11", "wait l>", "wait 11"} {
		if answers[often] == 0 {
			t.Errorf("none of the acts answered %q: %v", often, answers)
		}
	}
}

func keysOf(l []api.Change) []string {
	var keys []string
	for _, c := range l {
		keys = append(keys, c.Key)
	}
	return keys
}

// session of one who does deeds, at once with others.
type session struct {
	w    *view.View
	done []act
	told []string
}

// crowd: several over the same rows; what is committed is done again by one alone.
type crowd struct {
	v        *versions.Versions
	history  certify.History
	alone    *plain
	sessions [4]session
	taken    map[string]int // bodies, how often
	late     int
}

func (c *crowd) step(t *testing.T, d *die, now, number int) {
	s := &c.sessions[d.n(len(c.sessions))]
	if s.w == nil {
		*s = session{w: view.New(c.v)}
	}
	a := draw(d, now)
	if a.what == "create" || a.name == "c" {
		a.what, a.name = "receive", "a"
	}
	a.body, a.until = "x"+strconv.Itoa(number), 0
	s.done, s.told = append(s.done, a), append(s.told, a.on(s.w))
	if d.n(3) == 0 {
		c.commit(t, s)
	}
}

// commit a deed, unless somebody was ahead of it.
func (c *crowd) commit(t *testing.T, s *session) {
	w, done, told := s.w, s.done, s.told
	*s = session{}
	if len(w.Changes()) == 0 {
		return
	}
	if !c.history.Clear(w.Reads(), w.Since()) {
		c.late++
		return
	}
	n, err := c.v.Commit(w.Changes())
	if err != nil {
		t.Fatal(err)
	}
	c.history.Note(n, w.Changes())
	c.alone.changed = map[string]bool{}
	for i, a := range done {
		body := c.bodyOf(a)
		want := c.alone.do(a)
		if told[i] != want {
			t.Fatalf("W1, W4: the deed %d, %+v: %s was told, not %s", n, a, told[i], want)
		}
		if a.what == "ack" && want == "<nil>" {
			c.taken[body]++
		}
	}
}

// bodyOf the message that an act is about, as one alone has it.
func (c *crowd) bodyOf(a act) string {
	if q := c.alone.queues[a.name]; q != nil {
		return q.waiting[a.n].Body
	}
	return ""
}

// TestManyAtOnce: whoever is at it with others takes each message once, and finds it as one alone would.
func TestManyAtOnce(t *testing.T) {
	d := die(4)
	taken, late := 0, 0
	for range 150 {
		c := &crowd{v: versions.New(nil), alone: newPlain(), taken: map[string]int{}}
		c.sessions[0] = session{w: view.New(c.v)}
		for _, a := range []act{{what: "create", name: "b", tries: 1}, {what: "create", name: "a", tries: 2, dead: "b"}} {
			c.sessions[0].done = append(c.sessions[0].done, a)
			c.sessions[0].told = append(c.sessions[0].told, a.on(c.sessions[0].w))
		}
		c.commit(t, &c.sessions[0])
		for i := range 150 {
			c.step(t, &d, i/3, i)
		}
		for body, n := range c.taken {
			if n != 1 {
				t.Fatalf("W4: the message %q was taken %d times", body, n)
			}
			taken++
		}
		late += c.late
		c.checkWaiting(t)
	}
	if taken == 0 || late == 0 {
		t.Errorf("%d were taken, %d deeds were too late: nothing is tested so", taken, late)
	}
}

// checkWaiting: what waits in the end was taken by nobody, and waits once.
func (c *crowd) checkWaiting(t *testing.T) {
	t.Helper()
	waiting := map[string]int{}
	for _, name := range []string{"a", "b"} {
		l, err := queue.Messages(view.New(c.v), name)
		if want, _ := c.alone.messages(name); !slices.Equal(l, want) || err != nil {
			t.Fatalf("W1: in the end %q has %v, %v, not %v", name, l, err, want)
		}
		for _, m := range l {
			waiting[m.Body]++
			if waiting[m.Body] > 1 || c.taken[m.Body] > 0 {
				t.Fatalf("W4: %v waits, and was taken, or waits twice", m)
			}
		}
	}
}

// TestOrderOfSending: what is sent, all for now, is told for the first time in that order, whoever else is at it.
func TestOrderOfSending(t *testing.T) {
	d := die(7)
	v := versions.New([]api.Row{{Key: "q/a", Val: "0 3 "}})
	var h certify.History
	next, sent := 0, 0
	for now := range 2000 {
		one, two := view.New(v), view.New(v)
		for _, w := range []*view.View{one, two} {
			m, err := api.Message{}, error(nil)
			if d.n(2) == 0 && sent < next+6 {
				_, err = queue.Send(w, "a", "x", 0)
				m.Number = -1
			} else {
				m, err = queue.Receive(w, "a", now, d.n(5))
				if err == nil && d.n(2) == 0 {
					err = queue.Ack(w, "a", m.Number, m.Tries)
				}
			}
			if err != nil || !h.Clear(w.Reads(), w.Since()) {
				continue
			}
			n, err := v.Commit(w.Changes())
			if err != nil {
				t.Fatal(err)
			}
			h.Note(n, w.Changes())
			if m.Number < 0 {
				sent++
			} else if m.Tries == 1 {
				if m.Number != next {
					t.Fatalf("W4: %d is told, and %d was sent next", m.Number, next)
				}
				next++
			}
		}
	}
	if next < 100 {
		t.Errorf("only %d were told", next)
	}
}
