package queue_test

import (
	"math"
	"slices"
	"strconv"
	"strings"
	"testing"

	"haywain/api"
	"haywain/queue"
	"haywain/row"
	"haywain/span"
	"haywain/versions"
	"haywain/view"
)

func set(key, val string) api.Change { return api.Change{Key: key, Val: val} }

func gone(key string) api.Change { return api.Change{Key: key, Gone: true} }

// seeing: a view of these rows, by keys and values.
func seeing(l ...string) *view.View {
	var rows []api.Row
	for i := 0; i < len(l); i += 2 {
		rows = append(rows, api.Row{Key: l[i], Val: l[i+1]})
	}
	return view.New(versions.New(rows))
}

func changed(t *testing.T, w *view.View, want ...api.Change) {
	t.Helper()
	if got := w.Changes(); !slices.Equal(got, want) {
		t.Errorf("the changes are %v, not %v", got, want)
	}
}

func wasRead(t *testing.T, w *view.View, want ...api.Span) {
	t.Helper()
	if got := w.Reads(); !slices.Equal(got, want) {
		t.Errorf("the spans that were read are %q, not %q", got, want)
	}
}

// fillChanges: so many changes of rows of the table.
func fillChanges(t *testing.T, w *view.View, n int) {
	t.Helper()
	for i := range n {
		if err := w.Put(row.Table("c"+strconv.Itoa(i)), "x"); err != nil {
			t.Fatal(err)
		}
	}
}

// fillReads: so many spans are read, of rows of the table.
func fillReads(t *testing.T, w *view.View, n int) {
	t.Helper()
	for i := range n {
		if _, _, err := w.Get(row.Table("r" + strconv.Itoa(i))); err != nil {
			t.Fatal(err)
		}
	}
}

// refusing: what a call that is refused answers; it changes nothing, whatever else it would do.
func refusing(t *testing.T, what string, w *view.View, want error, call func() (zero bool, err error)) {
	t.Helper()
	before := w.Changes()
	zero, err := call()
	if err != want {
		t.Errorf("%s: the error is %v, not %v", what, err, want)
	}
	if !zero {
		t.Errorf("Z1: %s: beside an error stands what isn't zero", what)
	}
	if got := w.Changes(); !slices.Equal(got, before) {
		t.Errorf("%s: an error leaves the changes %v, not %v", what, got, before)
	}
}

func find(w *view.View, name string) func() (bool, error) {
	return func() (bool, error) {
		q, err := queue.Find(w, name)
		return q == api.Queue{}, err
	}
}

func create(w *view.View, name string, tries int, dead string) func() (bool, error) {
	return func() (bool, error) { return true, queue.Create(w, name, tries, dead) }
}

func send(w *view.View, name, body string, until int) func() (bool, error) {
	return func() (bool, error) {
		n, err := queue.Send(w, name, body, until)
		return n == 0, err
	}
}

func receive(w *view.View, name string, now, long int) func() (bool, error) {
	return func() (bool, error) {
		m, err := queue.Receive(w, name, now, long)
		return m == api.Message{}, err
	}
}

func ack(w *view.View, name string, n, tries int) func() (bool, error) {
	return func() (bool, error) { return true, queue.Ack(w, name, n, tries) }
}

func wait(w *view.View, name string, n, tries, until int) func() (bool, error) {
	return func() (bool, error) { return true, queue.Wait(w, name, n, tries, until) }
}

func messages(w *view.View, name string) func() (bool, error) {
	return func() (bool, error) {
		l, err := queue.Messages(w, name)
		return len(l) == 0, err
	}
}

// eachCall that begins by finding a queue; all else that it is given may be.
func eachCall(w *view.View, name string) map[string]func() (bool, error) {
	return map[string]func() (bool, error){
		"Find": find(w, name), "Send": send(w, name, "hay", 1), "Receive": receive(w, name, 1, 1),
		"Ack": ack(w, name, 0, 1), "Wait": wait(w, name, 0, 1, 1), "Messages": messages(w, name),
	}
}

// eachWrongCall: the same, but that all else is wrong. What is wrong with the queue comes first.
func eachWrongCall(w *view.View, name string) map[string]func() (bool, error) {
	return map[string]func() (bool, error){
		"Send": send(w, name, strings.Repeat("x", 29), -1), "Receive": receive(w, name, -1, -1),
		"Ack": ack(w, name, -1, 0), "Wait": wait(w, name, -1, 0, -1),
	}
}

var wrongNames = []string{"", "A", "1a", "a/", "a ", "abcdefg", "q/a", "\x00", "\xff", "é"}

var wrongQueues = []string{"", "x", "0 1", "0 0 ", "0 10 ", "-1 1 ", "1000000 1 ", "00 1 ", "0 01 ", "0 1 A", "0 1  ", "0 1 d ", " 0 1 "}

func TestFind(t *testing.T) {
	w := seeing("q/a", "0 1 ", "q/abcde6", "999999 9 dead", "q/self", "5 2 self")
	for _, c := range []struct {
		name string
		want api.Queue
	}{
		{"a", api.Queue{Next: 0, Tries: 1}},
		{"abcde6", api.Queue{Next: 999999, Tries: 9, Dead: "dead"}},
		{"self", api.Queue{Next: 5, Tries: 2, Dead: "self"}},
	} {
		if q, err := queue.Find(w, c.name); q != c.want || err != nil {
			t.Errorf("K1: Find(%q) = %v, %v, not %v", c.name, q, err, c.want)
		}
	}
	wasRead(t, w, span.Point("q/a"), span.Point("q/abcde6"), span.Point("q/self"))
	changed(t, w)
}

func TestFindSeesChanges(t *testing.T) {
	w := seeing("q/a", "0 1 ", "q/b", "0 1 ")
	w.Put("q/a", "7 2 b")
	w.Delete("q/b")
	if q, err := queue.Find(w, "a"); q != (api.Queue{Next: 7, Tries: 2, Dead: "b"}) || err != nil {
		t.Errorf("K1: Find of a queue that is changed = %v, %v", q, err)
	}
	refusing(t, "K1: Find of a queue that is gone", w, api.ErrNone, find(w, "b"))
	wasRead(t, w)
}

// TestEveryCallFinds: each but Create tells Find's error, ahead of all others.
func TestEveryCallFinds(t *testing.T) {
	for _, calls := range []func(*view.View, string) map[string]func() (bool, error){eachCall, eachWrongCall} {
		for _, name := range wrongNames {
			w := seeing("q/a", "0 1 ")
			for what, call := range calls(w, name) {
				refusing(t, what+" of the name "+strconv.Quote(name), w, api.ErrShape, call)
			}
			wasRead(t, w)
		}
		w := seeing("t/b", "0 1 ", "m/b/000000", "1 0 x")
		for what, call := range calls(w, "b") {
			refusing(t, what+" of a queue that isn't there", w, api.ErrNone, call)
		}
		wasRead(t, w, span.Point("q/b"))
		for _, text := range wrongQueues {
			w := seeing("q/b", text, "m/b/000000", "1 0 x")
			for what, call := range calls(w, "b") {
				refusing(t, what+" of a queue "+strconv.Quote(text), w, api.ErrText, call)
			}
			wasRead(t, w, span.Point("q/b"))
		}
		w = seeing("q/b", "0 1 ", "m/b/000000", "1 0 x")
		fillReads(t, w, api.MaxReads)
		for what, call := range calls(w, "b") {
			refusing(t, what+" with as many reads as may be", w, api.ErrMany, call)
		}
		if n := len(w.Reads()); n != api.MaxReads {
			t.Errorf("F1: %d spans were read", n)
		}
	}
}

func TestCreate(t *testing.T) {
	w := seeing("q/old", "3 1 ", "q/lost", "3 1 ")
	w.Delete("q/lost")
	for _, c := range []struct {
		name  string
		tries int
		dead  string
		want  string
	}{
		{"a", 1, "", "0 1 "},
		{"abcde6", 9, "a", "0 9 a"},
		{"b", 2, "old", "0 2 old"},
		{"c", 3, "abcde6", "0 3 abcde6"},
		{"lost", 4, "b", "0 4 b"},
	} {
		if err := queue.Create(w, c.name, c.tries, c.dead); err != nil {
			t.Errorf("K1: Create(%q, %d, %q) = %v", c.name, c.tries, c.dead, err)
		}
		if val, is, err := w.Get(row.Queue(c.name)); val != c.want || !is || err != nil {
			t.Errorf("K1: Create(%q, %d, %q) puts %q, %v, %v, not %q", c.name, c.tries, c.dead, val, is, err, c.want)
		}
	}
	changed(t, w, set("q/a", "0 1 "), set("q/abcde6", "0 9 a"), set("q/b", "0 2 old"), set("q/c", "0 3 abcde6"), set("q/lost", "0 4 b"))
	wasRead(t, w, span.Point("q/a"), span.Point("q/abcde6"), span.Point("q/b"), span.Point("q/old"), span.Point("q/c"))
}

// TestCreateLeavesMessages: those of an earlier queue of that name aren't asked for.
func TestCreateLeavesMessages(t *testing.T) {
	w := seeing("m/a/000000", "0 0 hay")
	if err := queue.Create(w, "a", 1, ""); err != nil {
		t.Errorf("K1: Create = %v", err)
	}
	changed(t, w, set("q/a", "0 1 "))
	wasRead(t, w, span.Point("q/a"))
}

func TestCreateWrongly(t *testing.T) {
	for _, name := range wrongNames {
		w := seeing("q/d", "0 1 ")
		refusing(t, "K1: Create of a wrong name", w, api.ErrShape, create(w, name, 0, "none"))
		wasRead(t, w)
	}
	for _, c := range []struct {
		name  string
		tries int
		dead  string
		want  error
	}{
		{"is", 1, "", api.ErrExist},
		{"is", 0, "", api.ErrExist},
		{"is", 1, "is", api.ErrExist},
		{"is", 1, "none", api.ErrExist},
		{"is", 1, "A", api.ErrExist},
		{"bad", 1, "", api.ErrText},
		{"bad", 0, "bad", api.ErrText},
		{"bad", 0, "none", api.ErrText},
		{"new", 1, "new", api.ErrShape},
		{"new", 0, "new", api.ErrShape},
		{"new", 1, "none", api.ErrNone},
		{"new", 0, "none", api.ErrNone},
		{"new", 1, "bad", api.ErrText},
		{"new", 10, "bad", api.ErrText},
		{"new", 1, "A", api.ErrShape},
		{"new", 0, "abcdefg", api.ErrShape},
		{"new", 0, "", api.ErrBound},
		{"new", 0, "is", api.ErrBound},
		{"new", 10, "is", api.ErrBound},
		{"new", -1, "", api.ErrBound},
		{"new", math.MaxInt, "", api.ErrBound},
		{"new", math.MinInt, "", api.ErrBound},
	} {
		w := seeing("q/is", "0 1 ", "q/bad", "x")
		fillChanges(t, w, 3)
		refusing(t, "K1: Create("+c.name+", "+strconv.Itoa(c.tries)+", "+c.dead+")", w, c.want, create(w, c.name, c.tries, c.dead))
	}
}

func TestCreateWithMany(t *testing.T) {
	w := seeing("q/is", "0 1 ")
	fillChanges(t, w, api.MaxChanges)
	refusing(t, "K1: Create with as many changes as may be", w, api.ErrMany, create(w, "new", 1, ""))
	refusing(t, "K1: Create with many changes, and wrong tries", w, api.ErrBound, create(w, "new", 0, "is"))
	wasRead(t, w, span.Point("q/new"), span.Point("q/is"))

	w = seeing("q/is", "0 1 ")
	fillReads(t, w, api.MaxReads)
	refusing(t, "K1: Create with as many reads as may be", w, api.ErrMany, create(w, "new", 0, "new"))
	w = seeing("q/is", "0 1 ")
	fillReads(t, w, api.MaxReads-1)
	refusing(t, "K1: Create with room for one read", w, api.ErrMany, create(w, "new", 0, "is"))
	if err := queue.Create(w, "new", 1, ""); err != nil {
		t.Errorf("K1: Create without Dead reads one row: %v", err)
	}
}

func sends(t *testing.T, w *view.View, name, body string, until, want int) {
	t.Helper()
	if n, err := queue.Send(w, name, body, until); n != want || err != nil {
		t.Errorf("K2: Send(%q, %q, %d) = %d, %v, not %d", name, body, until, n, err, want)
	}
}

func TestSend(t *testing.T) {
	long := strings.Repeat("x", api.MaxVal-12)
	w := seeing("q/a", "0 2 d", "q/b", "12 1 ")
	sends(t, w, "a", "hay", 0, 0)
	changed(t, w, set("m/a/000000", "0 0 hay"), set("q/a", "1 2 d"))
	sends(t, w, "a", "", api.MaxTime, 1)
	sends(t, w, "b", "a  b\x00\xff", 7, 12)
	sends(t, w, "a", long, 1, 2)
	changed(t, w,
		set("m/a/000000", "0 0 hay"), set("m/a/000001", "0 1000000 "), set("m/a/000002", "0 1 "+long),
		set("m/b/000012", "0 7 a  b\x00\xff"), set("q/a", "3 2 d"), set("q/b", "13 1 "))
	// Who sends asks for no message, and not for the queue that it is not for.
	wasRead(t, w, span.Point("q/a"), span.Point("q/b"))
}

func TestSendTheLastNumbers(t *testing.T) {
	w := seeing("q/a", "999997 1 ")
	sends(t, w, "a", "hay", 0, 999997)
	sends(t, w, "a", "oats", 0, 999998)
	refusing(t, "K2: Send to a queue that is full", w, api.ErrFull, send(w, "a", "straw", 0))
	changed(t, w, set("m/a/999997", "0 0 hay"), set("m/a/999998", "0 0 oats"), set("q/a", "999999 1 "))
}

// TestSendPutsOver: what stands in the row of the next number is no matter.
func TestSendPutsOver(t *testing.T) {
	w := seeing("q/a", "4 1 ", "m/a/000004", "x")
	sends(t, w, "a", "hay", 0, 4)
	changed(t, w, set("m/a/000004", "0 0 hay"), set("q/a", "5 1 "))
	wasRead(t, w, span.Point("q/a"))
}

func TestSendWrongly(t *testing.T) {
	long := strings.Repeat("x", api.MaxVal-11)
	for _, c := range []struct {
		name, body string
		until      int
		want       error
	}{
		{"a", "hay", -1, api.ErrBound},
		{"a", "hay", api.MaxTime + 1, api.ErrBound},
		{"a", "hay", math.MaxInt, api.ErrBound},
		{"a", "hay", math.MinInt, api.ErrBound},
		{"a", long, 0, api.ErrBound},
		{"a", strings.Repeat("x", 5000), 0, api.ErrBound},
		{"full", "hay", 0, api.ErrFull},
		{"full", long, 0, api.ErrFull},
		{"full", "hay", api.MaxTime + 1, api.ErrBound},
	} {
		for _, changes := range []int{0, api.MaxChanges} {
			w := seeing("q/a", "0 1 ", "q/full", "999999 1 ")
			fillChanges(t, w, changes)
			refusing(t, "K2: Send to "+c.name, w, c.want, send(w, c.name, c.body, c.until))
			wasRead(t, w, span.Point(row.Queue(c.name)))
		}
	}
}

// TestSendIsAllOrNothing: there is no message without the queue's next number.
func TestSendIsAllOrNothing(t *testing.T) {
	for changes := range api.MaxChanges + 1 {
		w := seeing("q/a", "0 1 ")
		fillChanges(t, w, changes)
		if changes <= api.MaxChanges-2 {
			sends(t, w, "a", "hay", 0, 0)
			continue
		}
		refusing(t, "K2: Send with "+strconv.Itoa(changes)+" changes", w, api.ErrMany, send(w, "a", "hay", 0))
		// What was read stays read.
		wasRead(t, w, span.Point("q/a"))
	}
	w := seeing("q/a", "0 1 ")
	sends(t, w, "a", "hay", 0, 0)
	fillChanges(t, w, api.MaxChanges-3)
	sends(t, w, "a", "oats", 0, 1)
	refusing(t, "K2: Send with as many changes as may be", w, api.ErrMany, send(w, "a", "straw", 0))
	if val, _, _ := w.Get("q/a"); val != "2 1 " {
		t.Errorf("K2: behind a Send that is refused the queue is %q", val)
	}
}

func lists(t *testing.T, w *view.View, name string, want ...api.Message) {
	t.Helper()
	if l, err := queue.Messages(w, name); !slices.Equal(l, want) || err != nil {
		t.Errorf("K5: Messages(%q) = %v, %v, not %v", name, l, err, want)
	}
}

func TestMessages(t *testing.T) {
	w := seeing(
		"q/a", "0 1 ", "q/ab", "0 1 ", "q/b", "0 1 ", "q/none", "0 1 ",
		"m/a/000000", "0 0 ", "m/a/000010", "9 2000000 a b ", "m/a/000002", "1 5 hay", "m/a/999999", "0 1 last",
		"m/a0/000000", "x", "m/ab/000001", "2 0 oats", "m/b/000003", "3 0 straw", "t/a", "x")
	lists(t, w, "a", api.Message{}, api.Message{Number: 2, Tries: 1, Until: 5, Body: "hay"},
		api.Message{Number: 10, Tries: 9, Until: 2000000, Body: "a b "}, api.Message{Number: 999999, Until: 1, Body: "last"})
	lists(t, w, "ab", api.Message{Number: 1, Tries: 2, Body: "oats"})
	lists(t, w, "b", api.Message{Number: 3, Tries: 3, Body: "straw"})
	lists(t, w, "none")
	changed(t, w)
	wasRead(t, w, span.Point("q/a"), row.Messages("a"), span.Point("q/ab"), row.Messages("ab"),
		span.Point("q/b"), row.Messages("b"), span.Point("q/none"), row.Messages("none"))

	w.Delete("m/a/000000")
	w.Delete("m/a/999999")
	w.Put("m/a/000002", "0 0 mine")
	w.Put("m/a/000003", "0 0 more")
	w.Delete("m/a/000010")
	lists(t, w, "a", api.Message{Number: 2, Body: "mine"}, api.Message{Number: 3, Body: "more"})
}

// manyMessages: the rows of a queue and of so many messages of it, each with its number as body.
func manyMessages(n int) (rows []string, l []api.Message) {
	rows = []string{"q/a", "0 1 "}
	for i := range n {
		rows = append(rows, row.Message("a", i), "0 0 "+strconv.Itoa(i))
		l = append(l, api.Message{Number: i, Body: strconv.Itoa(i)})
	}
	return rows, l
}

// TestAsManyMessagesAsMayBe: as many as rows may be there, less the queue's, and as many as may be changed.
func TestAsManyMessagesAsMayBe(t *testing.T) {
	rows, l := manyMessages(api.MaxRows)
	w := seeing(rows...)
	for i := range api.MaxChanges {
		n := api.MaxRows + i
		if err := w.Put(row.Message("a", n), "0 0 "+strconv.Itoa(n)); err != nil {
			t.Fatal(err)
		}
		l = append(l, api.Message{Number: n, Body: strconv.Itoa(n)})
	}
	lists(t, w, "a", l...)
	wasRead(t, w, span.Point("q/a"), row.Messages("a"))
}

// TestMessagesAreScanned: most of them is MaxRows and MaxChanges and 1, to be seen where more are there than may be.
func TestMessagesAreScanned(t *testing.T) {
	most := api.MaxRows + api.MaxChanges + 1
	rows, l := manyMessages(most + 3)
	w := seeing(rows...)
	lists(t, w, "a", l[:most]...)
	wasRead(t, w, span.Point("q/a"), api.Span{From: "m/a/", To: row.Message("a", most-1) + "\x00"})
}

var wrongMessages = []string{"", "x", "0 0", "10 0 x", "-1 0 x", "0 -1 x", "0 2000001 x", "00 0 x", "0 00 x", " 0 0 x", "0 0 " + strings.Repeat("x", 29)}

func TestMessagesWrongly(t *testing.T) {
	for _, text := range wrongMessages {
		w := seeing("q/a", "0 1 ", "m/a/000000", "0 0 hay", "m/a/000001", text, "m/a/000002", "0 0 oats")
		refusing(t, "K5: Messages with "+strconv.Quote(text), w, api.ErrText, messages(w, "a"))
		wasRead(t, w, span.Point("q/a"), row.Messages("a"))
	}
	w := seeing("q/a", "0 1 ", "m/a/000000", "x")
	fillReads(t, w, api.MaxReads-1)
	refusing(t, "K5: Messages with room for one read", w, api.ErrMany, messages(w, "a"))
}

func TestMessagesAreFreshMemory(t *testing.T) {
	w := seeing("q/a", "0 1 ", "m/a/000000", "0 0 hay", "m/a/000001", "0 0 oats")
	one, err := queue.Messages(w, "a")
	if err != nil {
		t.Fatal(err)
	}
	two, _ := queue.Messages(w, "a")
	one = one[:cap(one)]
	for i := range one {
		one[i] = api.Message{Number: 7, Body: "over"}
	}
	want := []api.Message{{Body: "hay"}, {Number: 1, Body: "oats"}}
	if !slices.Equal(two, want) {
		t.Errorf("Z2: two lists share memory: %v", two)
	}
	lists(t, w, "a", want...)
}
