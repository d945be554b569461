package engine_test

import (
	"slices"
	"strconv"
	"testing"

	"haywain/api"
	"haywain/engine"
	"haywain/queue"
	"haywain/view"
)

// limit: how often a message of the queue is tried.
const limit = 2

// letter: a message as those who stand by see it, in the order of commits.
type letter struct {
	body         string
	tries, until int
	taken, gone  bool // gone: it went on to the other queue
}

func (l *letter) waits() bool { return !l.taken && !l.gone }

// event of a deed: what was done with messages, and what was told.
type event struct {
	what                 string
	n, tries, until, now int
	body                 string
	told                 api.Message
	err                  error
}

// office: several who send, receive and take messages at once.
type office struct {
	e       *engine.Engine
	events  [api.Sessions][]event
	held    []api.Message // that were told to somebody, also long ago
	letters []*letter     // by their numbers
	dead    []string      // bodies, in the order in which they went there
	sent    int           // so that each body is another one
	counts  map[string]int
}

func newOffice(t *testing.T) *office {
	t.Helper()
	_, e := start(t)
	w := begins(t, e, 0)
	for _, err := range []error{queue.Create(w, "dead", 1, ""), queue.Create(w, "a", limit, "dead")} {
		if err != nil {
			t.Fatal(err)
		}
	}
	commits(t, e, 0, 1)
	return &office{e: e, counts: map[string]int{}}
}

func (o *office) step(t *testing.T, d *die, now int) {
	t.Helper()
	s := d.n(api.Sessions)
	if o.e.Begin(s) == nil {
		o.events[s] = nil
		return
	}
	w, err := o.e.Deed(s)
	if err != nil {
		t.Fatal(err)
	}
	if len(o.events[s]) == 0 || d.n(3) > 0 {
		o.events[s] = append(o.events[s], o.act(d, w, now))
		return
	}
	looks := len(w.Changes()) == 0 // its place is behind its Since, not behind those that were committed meanwhile
	switch _, err := o.e.Commit(s); err {
	case nil:
		for _, x := range o.events[s] {
			if !looks {
				o.stand(t, x)
			}
		}
		o.checkRows(t)
	case api.ErrConflict:
		o.counts["late"]++
	case api.ErrFull:
		aborts(t, o.e, s)
	default:
		t.Fatalf("L2: %v", err)
	}
}

func (o *office) act(d *die, w *view.View, now int) event {
	x := event{what: []string{"send", "receive", "receive", "ack", "wait"}[d.n(5)], now: now, until: now + d.n(4)}
	if len(o.held) > 0 && d.n(8) > 0 {
		m := o.held[max(0, len(o.held)-1-d.n(6))]
		x.n, x.tries = m.Number, m.Tries
	}
	switch x.what {
	case "send":
		o.sent++
		x.body = "x" + strconv.Itoa(o.sent)
		x.n, x.err = queue.Send(w, "a", x.body, 0)
	case "receive":
		x.until = now + d.n(12)
		x.told, x.err = queue.Receive(w, "a", now, x.until-now)
		if x.err == nil {
			o.held = append(o.held, x.told)
		}
	case "ack":
		x.err = queue.Ack(w, "a", x.n, x.tries)
	case "wait":
		x.err = queue.Wait(w, "a", x.n, x.tries, x.until)
	}
	return x
}

// stand by: what was committed goes as W4 says it.
func (o *office) stand(t *testing.T, x event) {
	t.Helper()
	if x.err == api.ErrMany || x.err == api.ErrBound { // too much for a deed, or nothing was held
		return
	}
	if x.err == nil {
		o.counts[x.what]++
	}
	switch x.what {
	case "send":
		if x.n != len(o.letters) || x.err != nil {
			t.Fatalf("W4: %q was sent as %d, %v, not as %d", x.body, x.n, x.err, len(o.letters))
		}
		o.letters = append(o.letters, &letter{body: x.body})
	case "receive":
		o.standReceive(t, x)
	default:
		o.standSettle(t, x)
	}
}

// standReceive: the first one that waits, and whose time has come, is told, by its next try.
func (o *office) standReceive(t *testing.T, x event) {
	t.Helper()
	var passed []*letter
	for n, l := range o.letters {
		if !l.waits() || l.until > x.now {
			continue
		}
		if l.tries == limit {
			passed = append(passed, l)
			continue
		}
		l.tries++
		l.until = x.until
		want := api.Message{Number: n, Tries: l.tries, Until: x.until, Body: l.body}
		if x.told != want || x.err != nil {
			t.Fatalf("W4: %+v, %v is told at %d, not %+v", x.told, x.err, x.now, want)
		}
		o.bury(passed)
		return
	}
	if x.err != api.ErrEmpty {
		t.Fatalf("W4: %+v, %v is told at %d, and there is none", x.told, x.err, x.now)
	}
}

// bury those that were tried as often as may be: they go on, as they were.
func (o *office) bury(l []*letter) {
	for _, x := range l {
		x.gone = true
		o.dead = append(o.dead, x.body)
		o.counts["dead"]++
	}
}

// standSettle: who was told a message last takes it, or puts it back, and nobody else does.
func (o *office) standSettle(t *testing.T, x event) {
	t.Helper()
	mine := x.n < len(o.letters) && o.letters[x.n].waits() && o.letters[x.n].tries == x.tries
	if mine != (x.err == nil) || !mine && x.err != api.ErrLate {
		t.Fatalf("W4: %s of %d by the try %d: %v, and it is this one's: %v", x.what, x.n, x.tries, x.err, mine)
	}
	switch {
	case !mine:
		o.counts["not mine"]++
	case x.what == "ack":
		o.letters[x.n].taken = true
	default:
		o.letters[x.n].until = x.until
	}
}

// checkRows: what waits is there once, as it was sent, and nothing else.
func (o *office) checkRows(t *testing.T) {
	t.Helper()
	s := slices.IndexFunc([]int{0, 1, 2, 3}, func(s int) bool { return o.e.Begin(s) == nil })
	if s < 0 {
		t.Fatal("L2: the deed that was committed isn't over")
	}
	w, _ := o.e.Deed(s)
	var want []api.Message
	for n, l := range o.letters {
		if l.waits() {
			want = append(want, api.Message{Number: n, Tries: l.tries, Until: l.until, Body: l.body})
		}
	}
	if l, err := queue.Messages(w, "a"); !slices.Equal(l, want) || err != nil {
		t.Fatalf("W4: %v, %v wait, not %v", l, err, want)
	}
	want = nil
	for n, body := range o.dead {
		want = append(want, api.Message{Number: n, Body: body})
	}
	if l, err := queue.Messages(w, "dead"); !slices.Equal(l, want) || err != nil {
		t.Fatalf("W4: %v, %v went on, not %v", l, err, want)
	}
	aborts(t, o.e, s)
}

// TestMessagesOfMany: each is taken once, by one, told in order, held for its time, and goes on when it was tried too often.
func TestMessagesOfMany(t *testing.T) {
	d := die(41)
	counts := map[string]int{}
	for range 60 {
		o := newOffice(t)
		for i := range 400 {
			o.step(t, &d, i/4)
			if d.n(20) == 0 {
				o.e.Vacuum()
			}
		}
		for what, n := range o.counts {
			counts[what] += n
		}
	}
	for _, what := range []string{"send", "receive", "ack", "wait", "dead", "late", "not mine"} {
		if counts[what] < 50 {
			t.Errorf("%q was too seldom, nothing is tested so: %v", what, counts)
		}
	}
}

// TestTwoReceiveAtOnce: both are told the same one; it is the one's who is committed first.
func TestTwoReceiveAtOnce(t *testing.T) {
	_, e := start(t)
	w := begins(t, e, 0)
	if err := queue.Create(w, "a", 9, ""); err != nil {
		t.Fatal(err)
	}
	for _, body := range []string{"first", "second"} {
		if _, err := queue.Send(w, "a", body, 0); err != nil {
			t.Fatal(err)
		}
	}
	commits(t, e, 0, 1)
	want := api.Message{Number: 0, Tries: 1, Until: 5, Body: "first"}
	for s := range 2 {
		receives(t, begins(t, e, s), "a", 0, 5, want)
	}
	commits(t, e, 1, 2)
	commitsNot(t, e, 0, api.ErrConflict)
	receives(t, begins(t, e, 0), "a", 0, 7, api.Message{Number: 1, Tries: 1, Until: 7, Body: "second"})
	commits(t, e, 0, 3)
	// Who takes the one, and who puts back the other, are in nobody's way.
	one, two := begins(t, e, 0), begins(t, e, 1)
	if err := queue.Ack(two, "a", 0, 1); err != nil {
		t.Fatal(err)
	}
	if err := queue.Wait(one, "a", 1, 1, 3); err != nil {
		t.Fatal(err)
	}
	commits(t, e, 0, 4)
	commits(t, e, 1, 5)
	has(t, e, 5, rows("m/a/000001", "1 3 second", "q/a", "2 9 "))
}

func receives(t *testing.T, w *view.View, name string, now, long int, want api.Message) {
	t.Helper()
	if m, err := queue.Receive(w, name, now, long); m != want || err != nil {
		t.Fatalf("W4: Receive(%q, %d, %d) = %+v, %v, not %+v", name, now, long, m, err, want)
	}
}

// noError of any.
func noError(t *testing.T, l ...error) {
	t.Helper()
	for i, err := range l {
		if err != nil {
			t.Fatalf("the call %d: %v", i, err)
		}
	}
}

func sends(t *testing.T, w *view.View, name, body string, want int) {
	t.Helper()
	if n, err := queue.Send(w, name, body, 0); n != want || err != nil {
		t.Fatalf("K2: Send(%q, %q) = %d, %v, not %d", name, body, n, err, want)
	}
}

// TestDocumentsSession: the document's session, call by call.
func TestDocumentsSession(t *testing.T) {
	d, e := start(t)
	w := begins(t, e, 0)
	noError(t, w.Put("t/a", "hay"), queue.Create(w, "dead", 1, ""), queue.Create(w, "work", 2, "dead"))
	sends(t, w, "work", "first", 0)
	sends(t, w, "work", "second", 1)
	commits(t, e, 0, 1)
	has(t, e, 1, rows("m/work/000000", "0 0 first", "m/work/000001", "0 0 second", "q/dead", "0 1 ", "q/work", "2 2 dead", "t/a", "hay"))
	zero, one := begins(t, e, 0), begins(t, e, 1)
	gets(t, zero, "t/a", "hay")
	gets(t, one, "t/a", "hay")
	puts(t, zero, "t/a", "hay oats")
	puts(t, one, "t/a", "straw")
	commits(t, e, 1, 2)
	commitsNot(t, e, 0, api.ErrConflict)
	two := begins(t, e, 2)
	scans(t, two, api.Span{From: "t/a", To: "t/z"}, 9, rows("t/a", "straw"))
	receives(t, begins(t, e, 0), "work", 0, 5, api.Message{Tries: 1, Until: 5, Body: "first"})
	commits(t, e, 0, 3)
	one = begins(t, e, 1)
	receives(t, one, "work", 0, 5, api.Message{Number: 1, Tries: 1, Until: 5, Body: "second"})
	noError(t, queue.Ack(one, "work", 1, 1))
	commits(t, e, 1, 4)
	receives(t, begins(t, e, 1), "work", 5, 0, api.Message{Tries: 2, Until: 5, Body: "first"})
	commits(t, e, 1, 5)
	lastDeedOfSession(t, begins(t, e, 1))
	commits(t, e, 1, 6)
	getsNone(t, two, "t/b")
	commits(t, e, 2, 2)
	e.Vacuum()
	noError(t, e.Checkpoint())
	want := rows("m/dead/000000", "0 0 first", "m/work/000002", "1 8 third", "q/dead", "1 1 ", "q/work", "3 2 dead", "t/a", "straw")
	has(t, e, 6, want)
	keeps(t, e, len(want))
	d.Restart(0)
	has(t, makes(t, d), 0, want)
}

func lastDeedOfSession(t *testing.T, w *view.View) {
	t.Helper()
	if m, err := queue.Receive(w, "work", 5, 0); m != (api.Message{}) || err != api.ErrEmpty {
		t.Fatalf("W4: Receive = %+v, %v, not %v", m, err, api.ErrEmpty)
	}
	if l, err := queue.Messages(w, "dead"); len(l) != 0 || err != nil {
		t.Fatalf("W4: Messages = %v, %v", l, err)
	}
	sends(t, w, "work", "third", 2)
	receives(t, w, "work", 5, 3, api.Message{Number: 2, Tries: 1, Until: 8, Body: "third"})
	if l, err := queue.Messages(w, "dead"); !slices.Equal(l, []api.Message{{Body: "first"}}) || err != nil {
		t.Fatalf("W4: Messages = %v, %v", l, err)
	}
	if err := queue.Ack(w, "work", 0, 1); err != api.ErrLate {
		t.Fatalf("W4: Ack = %v, not %v", err, api.ErrLate)
	}
}
