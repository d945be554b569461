package queue_test

import (
	"math"
	"slices"
	"strconv"
	"strings"
	"testing"

	"haywain/api"
	"haywain/queue"
	"haywain/row"
	"haywain/span"
	"haywain/versions"
	"haywain/view"
)

func receives(t *testing.T, w *view.View, name string, now, long int, want api.Message) {
	t.Helper()
	if m, err := queue.Receive(w, name, now, long); m != want || err != nil {
		t.Errorf("K3: Receive(%q, %d, %d) = %v, %v, not %v", name, now, long, m, err, want)
	}
}

func acks(t *testing.T, w *view.View, name string, n, tries int) {
	t.Helper()
	if err := queue.Ack(w, name, n, tries); err != nil {
		t.Errorf("K4: Ack(%q, %d, %d) = %v", name, n, tries, err)
	}
}

func waits(t *testing.T, w *view.View, name string, n, tries, until int) {
	t.Helper()
	if err := queue.Wait(w, name, n, tries, until); err != nil {
		t.Errorf("K4: Wait(%q, %d, %d, %d) = %v", name, n, tries, until, err)
	}
}

// upTo a message's row, from where a receiver looks on.
func upTo(from, key string) api.Span { return api.Span{From: from, To: key + "\x00"} }

// behind a message's row, to the end of its queue's.
func behind(key, name string) api.Span {
	return api.Span{From: key + "\x00", To: row.Messages(name).To}
}

func TestReceive(t *testing.T) {
	w := seeing("q/a", "3 2 d", "m/a/000000", "0 0 hay", "m/a/000001", "1 0 oats", "m/a/000002", "0 0 straw")
	receives(t, w, "a", 4, 5, api.Message{Number: 0, Tries: 1, Until: 9, Body: "hay"})
	changed(t, w, set("m/a/000000", "1 9 hay"))
	wasRead(t, w, span.Point("q/a"), upTo("m/a/", "m/a/000000"))
	// What it was told itself isn't told again, till its time is over.
	receives(t, w, "a", 8, 0, api.Message{Number: 1, Tries: 2, Until: 8, Body: "oats"})
	changed(t, w, set("m/a/000000", "1 9 hay"), set("m/a/000001", "2 8 oats"))
	wasRead(t, w, span.Point("q/a"), upTo("m/a/", "m/a/000000"), upTo("m/a/000000\x00", "m/a/000001"))
	receives(t, w, "a", 9, 1, api.Message{Number: 0, Tries: 2, Until: 10, Body: "hay"})
}

func TestReceiveAtTheEdgesOfTime(t *testing.T) {
	for _, c := range []struct {
		until, now, long int
		told             bool
	}{
		{0, 0, 0, true}, {1, 0, 0, false}, {1, 1, 0, true}, {1, 2, 0, true},
		{api.MaxTime, api.MaxTime - 1, 1, false}, {api.MaxTime, api.MaxTime, api.MaxTime, true},
		{2 * api.MaxTime, api.MaxTime, 0, false}, {0, api.MaxTime, api.MaxTime, true}, {0, 0, api.MaxTime, true},
	} {
		w := seeing("q/a", "0 1 ", "m/a/000007", "0 "+strconv.Itoa(c.until)+" hay")
		if !c.told {
			refusing(t, "K3: Receive of one that waits", w, api.ErrEmpty, receive(w, "a", c.now, c.long))
			continue
		}
		receives(t, w, "a", c.now, c.long, api.Message{Number: 7, Tries: 1, Until: c.now + c.long, Body: "hay"})
		changed(t, w, set("m/a/000007", "1 "+strconv.Itoa(c.now+c.long)+" hay"))
	}
}

// TestReceiveSkipsWhatWaits: others have it, or it was sent for later; whoever changes that was in the way.
func TestReceiveSkipsWhatWaits(t *testing.T) {
	w := seeing("q/a", "9 1 ", "m/a/000002", "1 6 hay", "m/a/000004", "0 6 oats", "m/a/000005", "0 5 straw", "m/a/000006", "0 0 clover")
	receives(t, w, "a", 5, 1, api.Message{Number: 5, Tries: 1, Until: 6, Body: "straw"})
	changed(t, w, set("m/a/000005", "1 6 straw"))
	wasRead(t, w, span.Point("q/a"), upTo("m/a/", "m/a/000002"), upTo("m/a/000002\x00", "m/a/000004"), upTo("m/a/000004\x00", "m/a/000005"))
}

func TestReceiveOfNothing(t *testing.T) {
	w := seeing("q/a", "0 1 ", "m/a0/000000", "0 0 x", "m/b/000000", "0 0 x", "t/a", "x")
	refusing(t, "K3: Receive of an empty queue", w, api.ErrEmpty, receive(w, "a", 0, 0))
	wasRead(t, w, span.Point("q/a"), row.Messages("a"))

	w = seeing("q/a", "0 1 ", "m/a/000003", "0 9 x", "m/a/999999", "0 9 x")
	refusing(t, "K3: Receive of what waits", w, api.ErrEmpty, receive(w, "a", 8, 0))
	wasRead(t, w, span.Point("q/a"), upTo("m/a/", "m/a/000003"), upTo("m/a/000003\x00", "m/a/999999"), behind("m/a/999999", "a"))
	w.Delete("m/a/000003")
	w.Delete("m/a/999999")
	refusing(t, "K3: Receive of what is gone", w, api.ErrEmpty, receive(w, "a", 9, 0))
}

func TestReceiveWrongly(t *testing.T) {
	for _, c := range [][2]int{{-1, 0}, {0, -1}, {api.MaxTime + 1, 0}, {0, api.MaxTime + 1}, {math.MaxInt, 1}, {1, math.MaxInt}, {math.MinInt, 1}, {1, math.MinInt}, {math.MaxInt, math.MaxInt}} {
		for _, val := range []string{"0 0 hay", "x"} {
			w := seeing("q/a", "0 1 ", "m/a/000000", val)
			refusing(t, "K3: Receive at no time", w, api.ErrBound, receive(w, "a", c[0], c[1]))
			wasRead(t, w, span.Point("q/a"))
		}
	}
	for _, text := range wrongMessages {
		w := seeing("q/a", "0 1 ", "m/a/000000", "0 9 hay", "m/a/000001", text, "m/a/000002", "0 0 oats")
		refusing(t, "K3: Receive with "+strconv.Quote(text), w, api.ErrText, receive(w, "a", 1, 1))
		wasRead(t, w, span.Point("q/a"), upTo("m/a/", "m/a/000000"), upTo("m/a/000000\x00", "m/a/000001"))
	}
	// What stands behind the one that is told isn't looked at.
	w := seeing("q/a", "0 1 ", "m/a/000000", "0 0 hay", "m/a/000001", "x")
	receives(t, w, "a", 0, 1, api.Message{Tries: 1, Until: 1, Body: "hay"})
}

func TestReceiveWithMany(t *testing.T) {
	w := seeing("q/a", "0 1 ", "m/a/000000", "0 0 hay")
	fillChanges(t, w, api.MaxChanges)
	refusing(t, "K3: Receive with as many changes as may be", w, api.ErrMany, receive(w, "a", 0, 0))
	wasRead(t, w, span.Point("q/a"), upTo("m/a/", "m/a/000000"))

	w = seeing("q/a", "0 1 ", "m/a/000000", "0 9 hay", "m/a/000001", "0 0 oats")
	fillReads(t, w, api.MaxReads-2)
	refusing(t, "K3: Receive with room for two reads", w, api.ErrMany, receive(w, "a", 0, 0))
	if n := len(w.Reads()); n != api.MaxReads {
		t.Errorf("K3: what was read stays read: %d spans are", n)
	}
	w = seeing("q/a", "0 1 ", "m/a/000000", "0 9 hay", "m/a/000001", "0 0 oats")
	fillReads(t, w, api.MaxReads-3)
	receives(t, w, "a", 0, 0, api.Message{Number: 1, Tries: 1, Body: "oats"})
}

func TestBurying(t *testing.T) {
	w := seeing("q/a", "9 2 d", "q/d", "5 1 ", "m/a/000001", "2 3 hay", "m/a/000002", "9 0 a  b", "m/a/000003", "1 0 oats")
	receives(t, w, "a", 3, 4, api.Message{Number: 3, Tries: 2, Until: 7, Body: "oats"})
	changed(t, w, gone("m/a/000001"), gone("m/a/000002"), set("m/a/000003", "2 7 oats"),
		set("m/d/000005", "0 0 hay"), set("m/d/000006", "0 0 a  b"), set("q/d", "7 1 "))
	wasRead(t, w, span.Point("q/a"), upTo("m/a/", "m/a/000001"), span.Point("q/d"),
		upTo("m/a/000001\x00", "m/a/000002"), upTo("m/a/000002\x00", "m/a/000003"))
	lists(t, w, "d", api.Message{Number: 5, Body: "hay"}, api.Message{Number: 6, Body: "a  b"})
}

// TestWhoHasItIsNotBuried: one that was tried as often as may be is left alone till its time is over.
func TestWhoHasItIsNotBuried(t *testing.T) {
	w := seeing("q/a", "9 1 d", "q/d", "0 1 ", "m/a/000001", "1 4 hay", "m/a/000002", "0 0 oats")
	receives(t, w, "a", 3, 0, api.Message{Number: 2, Tries: 1, Until: 3, Body: "oats"})
	changed(t, w, set("m/a/000002", "1 3 oats"))
	acks(t, w, "a", 1, 1)
}

func TestBuryingNowhere(t *testing.T) {
	w := seeing("q/a", "9 1 ", "m/a/000001", "1 0 hay", "m/a/000002", "0 0 oats")
	receives(t, w, "a", 0, 0, api.Message{Number: 2, Tries: 1, Body: "oats"})
	changed(t, w, gone("m/a/000001"), set("m/a/000002", "1 0 oats"))
	wasRead(t, w, span.Point("q/a"), upTo("m/a/", "m/a/000001"), upTo("m/a/000001\x00", "m/a/000002"))
}

// TestBuryingInVain: who is told nothing has buried nothing.
func TestBuryingInVain(t *testing.T) {
	for _, dead := range []string{"", "d"} {
		w := seeing("q/a", "9 1 "+dead, "q/d", "0 1 ", "m/a/000001", "1 0 hay", "m/a/000002", "0 9 oats")
		fillChanges(t, w, 2)
		refusing(t, "K3: Receive that only buries", w, api.ErrEmpty, receive(w, "a", 8, 0))
		reads := w.Reads()
		if want := []api.Span{behind("m/a/000002", "a")}; !slices.Equal(reads[len(reads)-1:], want) {
			t.Errorf("K3: what was read stays read: %q", reads)
		}
		lists(t, w, "d")
		acks(t, w, "a", 1, 1)
	}
}

func TestBuryingWrongly(t *testing.T) {
	for _, c := range []struct {
		dead string
		want error
	}{
		{"", api.ErrText}, {"x", api.ErrText}, {"999999 1 ", api.ErrFull}, {"none", api.ErrNone},
	} {
		rows := []string{"q/a", "9 1 d", "m/a/000000", "1 0 hay", "m/a/000001", "0 0 oats"}
		if c.want != api.ErrNone {
			rows = append(rows, "q/d", c.dead)
		}
		w := seeing(rows...)
		fillChanges(t, w, 1)
		refusing(t, "K3: Receive where Dead is "+strconv.Quote(c.dead), w, c.want, receive(w, "a", 1, 1))
		wasRead(t, w, span.Point("q/a"), upTo("m/a/", "m/a/000000"), span.Point("q/d"))
	}
	// One that waits, or may still be tried, needs no Dead.
	w := seeing("q/a", "9 2 d", "m/a/000000", "2 1 hay", "m/a/000001", "1 0 oats")
	receives(t, w, "a", 0, 0, api.Message{Number: 1, Tries: 2, Body: "oats"})
}

// TestBuryingIsAllOrNothing: at each of its changes one too many may be. It needs four of them.
func TestBuryingIsAllOrNothing(t *testing.T) {
	for changes := range api.MaxChanges + 1 {
		w := seeing("q/a", "9 1 d", "q/d", "0 1 ", "m/a/000000", "1 0 hay", "m/a/000001", "0 0 oats")
		fillChanges(t, w, changes)
		if changes <= api.MaxChanges-4 {
			receives(t, w, "a", 0, 0, api.Message{Number: 1, Tries: 1, Body: "oats"})
			continue
		}
		refusing(t, "K3: Receive with "+strconv.Itoa(changes)+" changes", w, api.ErrMany, receive(w, "a", 0, 0))
		reads := []api.Span{span.Point("q/a"), upTo("m/a/", "m/a/000000")}
		if changes < api.MaxChanges {
			reads = append(reads, span.Point("q/d"))
		}
		if changes == api.MaxChanges-3 {
			reads = append(reads, upTo("m/a/000000\x00", "m/a/000001"))
		}
		wasRead(t, w, reads...)
	}
	w := seeing("q/a", "9 1 d", "q/d", "0 1 ", "m/a/000000", "1 0 hay", "m/a/000001", "0 0 oats")
	fillReads(t, w, api.MaxReads-2)
	refusing(t, "K3: Receive without room to read Dead", w, api.ErrMany, receive(w, "a", 0, 0))
}

// buriedAhead: a queue with so many that were tried as often as may be, and one behind them that wasn't tried.
func buriedAhead(n int) *view.View {
	rows := []string{"q/a", "20 1 "}
	for i := range n {
		rows = append(rows, row.Message("a", i), "1 0 x")
	}
	return seeing(append(rows, row.Message("a", n), "0 0 hay")...)
}

// TestMoreAreBuriedThanMayChange: then it is told nothing, and nothing is buried.
func TestMoreAreBuriedThanMayChange(t *testing.T) {
	w := buriedAhead(api.MaxChanges)
	refusing(t, "K3: Receive behind too many that are buried", w, api.ErrMany, receive(w, "a", 0, 0))
	if n := len(w.Reads()); n != api.MaxChanges+2 {
		t.Errorf("K3: %d spans were read", n)
	}
	w = buriedAhead(api.MaxChanges - 1)
	receives(t, w, "a", 0, 0, api.Message{Number: api.MaxChanges - 1, Tries: 1, Body: "hay"})
	if n := len(w.Changes()); n != api.MaxChanges {
		t.Errorf("K3: %d rows are changed", n)
	}
}

// TestDeadIsTheQueueItself: none is created so, but rows may say it. What is sent there is met in its turn.
func TestDeadIsTheQueueItself(t *testing.T) {
	w := seeing("q/e", "5 2 e", "m/e/000003", "2 0 hay")
	receives(t, w, "e", 0, 1, api.Message{Number: 5, Tries: 1, Until: 1, Body: "hay"})
	changed(t, w, gone("m/e/000003"), set("m/e/000005", "1 1 hay"), set("q/e", "6 2 e"))

	// Behind the one that is looked at already.
	w = seeing("q/e", "2 1 e", "m/e/000002", "1 0 hay", "m/e/000003", "1 0 oats", "m/e/000004", "0 0 straw")
	receives(t, w, "e", 0, 1, api.Message{Number: 4, Tries: 1, Until: 1, Body: "straw"})
	changed(t, w, set("m/e/000002", "0 0 hay"), set("m/e/000003", "0 0 oats"), set("m/e/000004", "1 1 straw"), set("q/e", "4 1 e"))

	w = seeing("q/e", "999999 1 e", "m/e/000002", "1 0 hay")
	refusing(t, "K3: Receive where the queue itself is full", w, api.ErrFull, receive(w, "e", 0, 0))
}

// TestDeadOfEachOther: what goes to the other one comes back as new.
func TestDeadOfEachOther(t *testing.T) {
	w := seeing("q/a", "1 1 b", "q/b", "0 1 a", "m/a/000000", "0 0 hay")
	receives(t, w, "a", 0, 0, api.Message{Tries: 1, Body: "hay"})
	sends(t, w, "a", "oats", 0, 1)
	receives(t, w, "a", 0, 9, api.Message{Number: 1, Tries: 1, Until: 9, Body: "oats"})
	receives(t, w, "b", 0, 0, api.Message{Tries: 1, Body: "hay"})
	sends(t, w, "b", "straw", 0, 1)
	receives(t, w, "b", 0, 9, api.Message{Number: 1, Tries: 1, Until: 9, Body: "straw"})
	receives(t, w, "a", 0, 9, api.Message{Number: 2, Tries: 1, Until: 9, Body: "hay"})
	refusing(t, "K3: Receive where all is held", w, api.ErrEmpty, receive(w, "a", 8, 0))
	refusing(t, "K3: Receive where all is held", w, api.ErrEmpty, receive(w, "b", 8, 0))
}

// TestTriesOfTheQueue: a message is told just as often as its queue says.
func TestTriesOfTheQueue(t *testing.T) {
	for tries := 1; tries <= api.MaxTries; tries++ {
		w := seeing("q/d", "0 1 ")
		if err := queue.Create(w, "a", tries, "d"); err != nil {
			t.Fatal(err)
		}
		sends(t, w, "a", "hay", 0, 0)
		for i := range tries {
			receives(t, w, "a", i, 1, api.Message{Tries: i + 1, Until: i + 1, Body: "hay"})
			refusing(t, "K3: Receive while it is held", w, api.ErrEmpty, receive(w, "a", i, 0))
		}
		sends(t, w, "a", "oats", 0, 1)
		receives(t, w, "a", tries, 0, api.Message{Number: 1, Tries: 1, Until: tries, Body: "oats"})
		lists(t, w, "d", api.Message{Body: "hay"})
	}
}

func TestAck(t *testing.T) {
	w := seeing("q/a", "9 1 ", "m/a/000000", "1 0 hay", "m/a/000001", "9 2000000 oats", "m/a/999999", "2 7 straw", "m/b/000000", "1 0 x")
	acks(t, w, "a", 0, 1)
	acks(t, w, "a", 1, 9)
	acks(t, w, "a", 999999, 2)
	changed(t, w, gone("m/a/000000"), gone("m/a/000001"), gone("m/a/999999"))
	wasRead(t, w, span.Point("q/a"), span.Point("m/a/000000"), span.Point("m/a/000001"), span.Point("m/a/999999"))
	lists(t, w, "a")
	refusing(t, "W4: Ack of one that was taken", w, api.ErrLate, ack(w, "a", 0, 1))
	refusing(t, "W4: Wait of one that was taken", w, api.ErrLate, wait(w, "a", 0, 1, 0))
}

func TestWait(t *testing.T) {
	w := seeing("q/a", "9 1 ", "m/a/000000", "1 5 hay", "m/a/000001", "9 2000000 oats", "m/a/999999", "2 0 a  b")
	waits(t, w, "a", 0, 1, 0)
	waits(t, w, "a", 1, 9, api.MaxTime)
	waits(t, w, "a", 999999, 2, 17)
	changed(t, w, set("m/a/000000", "1 0 hay"), set("m/a/000001", "9 1000000 oats"), set("m/a/999999", "2 17 a  b"))
	wasRead(t, w, span.Point("q/a"), span.Point("m/a/000000"), span.Point("m/a/000001"), span.Point("m/a/999999"))
	// It is still that one's: it may be put back again, or taken.
	waits(t, w, "a", 0, 1, 3)
	acks(t, w, "a", 0, 1)
}

// TestPutBackForOthers: one that is put back is told again, with one more try.
func TestPutBackForOthers(t *testing.T) {
	w := seeing("q/a", "0 2 ")
	sends(t, w, "a", "hay", 0, 0)
	receives(t, w, "a", 1, 100, api.Message{Tries: 1, Until: 101, Body: "hay"})
	waits(t, w, "a", 0, 1, 2)
	refusing(t, "K4: Receive of one that waits", w, api.ErrEmpty, receive(w, "a", 1, 0))
	receives(t, w, "a", 2, 1, api.Message{Tries: 2, Until: 3, Body: "hay"})
	refusing(t, "W4: Ack of who had it ahead", w, api.ErrLate, ack(w, "a", 0, 1))
	refusing(t, "W4: Wait of who had it ahead", w, api.ErrLate, wait(w, "a", 0, 1, 5))
	acks(t, w, "a", 0, 2)
}

func TestAckAndWaitWrongly(t *testing.T) {
	for _, c := range []struct {
		n, tries int
		want     error
	}{
		{-1, 1, api.ErrBound}, {1000000, 1, api.ErrBound}, {math.MaxInt, 1, api.ErrBound}, {math.MinInt, 1, api.ErrBound},
		{0, 0, api.ErrBound}, {0, -1, api.ErrBound}, {0, math.MinInt, api.ErrBound}, {7, 0, api.ErrBound}, {2, 0, api.ErrBound},
		{7, 1, api.ErrLate}, {999999, 1, api.ErrLate}, {3, 2, api.ErrLate},
		{2, 1, api.ErrText}, {2, 9, api.ErrText},
		{0, 1, api.ErrLate}, {0, 3, api.ErrLate}, {0, 10, api.ErrLate}, {0, math.MaxInt, api.ErrLate},
		// One that was told to nobody has no tries, and is nobody's.
		{1, 1, api.ErrLate}, {1, 0, api.ErrBound},
	} {
		for _, changes := range []int{1, api.MaxChanges} {
			w := seeing("q/a", "9 9 ", "m/a/000000", "2 0 hay", "m/a/000001", "0 0 oats", "m/a/000002", "x", "m/a/000003", "2 0 gone")
			w.Delete("m/a/000003")
			fillChanges(t, w, changes-1)
			what := " of " + strconv.Itoa(c.n) + " with tries " + strconv.Itoa(c.tries)
			refusing(t, "K4: Ack"+what, w, c.want, ack(w, "a", c.n, c.tries))
			refusing(t, "K4: Wait"+what, w, c.want, wait(w, "a", c.n, c.tries, 0))
			refusing(t, "K4: Wait till no time"+what, w, c.want, wait(w, "a", c.n, c.tries, -1))
			if c.want == api.ErrBound {
				wasRead(t, w, span.Point("q/a"))
			}
		}
	}
}

func TestWaitTillNoTime(t *testing.T) {
	for _, until := range []int{-1, api.MaxTime + 1, math.MaxInt, math.MinInt} {
		for _, changes := range []int{0, api.MaxChanges} {
			w := seeing("q/a", "9 9 ", "m/a/000000", "2 0 hay")
			fillChanges(t, w, changes)
			refusing(t, "K4: Wait till no time", w, api.ErrBound, wait(w, "a", 0, 2, until))
			wasRead(t, w, span.Point("q/a"), span.Point("m/a/000000"))
		}
	}
}

func TestAckAndWaitWithMany(t *testing.T) {
	w := seeing("q/a", "9 9 ", "m/a/000000", "2 0 hay")
	fillChanges(t, w, api.MaxChanges)
	refusing(t, "K4: Ack with as many changes as may be", w, api.ErrMany, ack(w, "a", 0, 2))
	refusing(t, "K4: Wait with as many changes as may be", w, api.ErrMany, wait(w, "a", 0, 2, 0))

	w = seeing("q/a", "9 9 ", "m/a/000000", "2 0 hay")
	fillReads(t, w, api.MaxReads-1)
	refusing(t, "K4: Ack with room for one read", w, api.ErrMany, ack(w, "a", 0, 2))
	refusing(t, "K4: Wait with room for one read", w, api.ErrMany, wait(w, "a", 0, 2, -1))
	refusing(t, "K4: Wait with room for one read, of no number", w, api.ErrBound, wait(w, "a", -1, 2, -1))
	if n := len(w.Reads()); n != api.MaxReads {
		t.Errorf("K4: what was read stays read: %d spans are", n)
	}
}

// TestOfTheDocument: what its session does with queues.
func TestOfTheDocument(t *testing.T) {
	w := seeing()
	if err := queue.Create(w, "dead", 1, ""); err != nil {
		t.Error(err)
	}
	if err := queue.Create(w, "work", 2, "dead"); err != nil {
		t.Error(err)
	}
	sends(t, w, "work", "first", 0, 0)
	sends(t, w, "work", "second", 0, 1)
	changed(t, w, set("m/work/000000", "0 0 first"), set("m/work/000001", "0 0 second"), set("q/dead", "0 1 "), set("q/work", "2 2 dead"))
	receives(t, w, "work", 0, 5, api.Message{Number: 0, Tries: 1, Until: 5, Body: "first"})
	receives(t, w, "work", 0, 5, api.Message{Number: 1, Tries: 1, Until: 5, Body: "second"})
	acks(t, w, "work", 1, 1)
	receives(t, w, "work", 5, 0, api.Message{Number: 0, Tries: 2, Until: 5, Body: "first"})
	refusing(t, "K3", w, api.ErrEmpty, receive(w, "work", 5, 0))
	lists(t, w, "dead")
	sends(t, w, "work", "third", 5, 2)
	receives(t, w, "work", 5, 3, api.Message{Number: 2, Tries: 1, Until: 8, Body: "third"})
	lists(t, w, "dead", api.Message{Body: "first"})
	refusing(t, "K4", w, api.ErrLate, ack(w, "work", 0, 1))
	rows, err := w.Scan(span.All(), 99)
	want := []api.Row{{Key: "m/dead/000000", Val: "0 0 first"}, {Key: "m/work/000002", Val: "1 8 third"}, {Key: "q/dead", Val: "1 1 "}, {Key: "q/work", Val: "3 2 dead"}}
	if !slices.Equal(rows, want) || err != nil {
		t.Errorf("the rows are %q, %v", rows, err)
	}
}

// TestAllCallsEnd: whatever they are given, and whatever rows are there, also of keys that may not be.
func TestAllCallsEnd(t *testing.T) {
	numbers := []int{math.MinInt, -1, 0, 1, 2, api.MaxTries, api.MaxNumber, api.MaxTime, api.MaxTime + 1, math.MaxInt}
	rows := []string{"q/a", "1 1 a", "q/b", "999998 9 c", "q/c", "0 1 b", "m/a/", "1 0 x", "m/a/x", "1 9 x", "m/a/zz/", "1 0 x",
		"m/a/99999999999999999999", "0 0 x", "m/b/-1", "9 0 x", "m/b/000001", "9 0 x", "m/b/000002", "9 9 x", "m/c//", "1 9 y", "m/c/zz", "1 9 y"}
	names := append([]string{"a", "b", "c", strings.Repeat("a", 5000)}, wrongNames...)
	for _, name := range names {
		for _, x := range numbers {
			w := seeing(rows...)
			queue.Create(w, name, x, name)
			queue.Create(w, "new", x, name)
			for _, y := range numbers {
				w = seeing(rows...)
				queue.Send(w, name, name, x)
				queue.Receive(w, name, x, y)
				queue.Ack(w, name, x, y)
				queue.Wait(w, name, x, y, x)
			}
			queue.Find(w, name)
			queue.Messages(w, name)
		}
	}
}

// TestWhatIsCommittedLaterIsNotSeen: a queue is as it was when the deed began.
func TestWhatIsCommittedLaterIsNotSeen(t *testing.T) {
	v := versions.New([]api.Row{{Key: "q/a", Val: "1 1 "}, {Key: "m/a/000000", Val: "0 0 hay"}})
	w := view.New(v)
	if _, err := v.Commit([]api.Change{gone("m/a/000000"), set("m/a/000001", "0 0 oats"), set("q/a", "2 1 ")}); err != nil {
		t.Fatal(err)
	}
	lists(t, w, "a", api.Message{Body: "hay"})
	receives(t, w, "a", 0, 0, api.Message{Tries: 1, Body: "hay"})
	sends(t, w, "a", "straw", 0, 1)
	w = view.New(v)
	receives(t, w, "a", 0, 0, api.Message{Number: 1, Tries: 1, Body: "oats"})
}
