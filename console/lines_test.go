package console_test

import (
	"slices"
	"strconv"
	"strings"
	"testing"

	"haywain/api"
)

// deedLines: of each kind one line within a deed of the session.
func deedLines(s string) []string {
	return []string{
		"get " + s + " a", "put " + s + " a x", "put " + s + " a ", "delete " + s + " a", "scan " + s + " a c 1",
		"queue " + s + " q 1", "queue " + s + " q 1 d", "send " + s + " q x", "send " + s + " q ", "receive " + s + " q 1",
		"ack " + s + " q 0 1", "wait " + s + " q 0 1 1", "messages " + s + " q",
	}
}

// brokenLines: of three words or more, with that session, and none of those that there are.
func brokenLines(s string) []string {
	return []string{
		"get " + s + " a b", "put " + s + " a", "delete " + s + " a b", "scan " + s + " a", "scan " + s + " a c", "scan " + s + " a c x",
		"scan " + s + " a c 1 1", "scan " + s + " a c 01", "scan " + s + " a c -1", "scan " + s + " a c 1000000", "scan " + s + " a c +1",
		"queue " + s + " q", "queue " + s + " q x", "queue " + s + " q x d", "queue " + s + " q 1 d d", "queue " + s + " q -1", "queue " + s + " q 01",
		"send " + s + " q", "receive " + s + " q", "receive " + s + " q x", "receive " + s + " q 1 1", "receive " + s + " q 1000000",
		"ack " + s + " q", "ack " + s + " q 1", "ack " + s + " q 1 x", "ack " + s + " q x 1", "ack " + s + " q 1 1 1", "ack " + s + " q -1 1",
		"wait " + s + " q", "wait " + s + " q 1 1", "wait " + s + " q 1 1 x", "wait " + s + " q 1 1 1 1", "wait " + s + " q 1 1 1000000", "wait " + s + " q 1 1 -1",
		"messages " + s + " q q", "messages " + s + " q ",
		"fly " + s + " a", "Get " + s + " a", "get, " + s + " a", " " + s + " a", " " + s + " ", "fly " + s + " ",
		"begin " + s + " 0", "begin " + s + " ", "commit " + s + " 0", "abort " + s + " 0",
		"rows " + s + " 0", "now " + s + " 0", "save " + s + " 0", "vacuum " + s + " 0",
		"tick " + s + " 0", "arm " + s + " 0", "restart " + s + " 0",
	}
}

// longLines: with more bytes than a line may have.
func longLines(s string) []string {
	var l []string
	for _, line := range []string{"get " + s + " ", "put " + s + " a ", "send " + s + " q ", "put " + s + " a  ", "fly " + s + " "} {
		l = append(l, line+strings.Repeat("x", api.MaxLine+1-len(line)), line+strings.Repeat(" ", 1<<20))
	}
	return l
}

func TestDeedsErrorComesFirst(t *testing.T) {
	lines := slices.Concat(deedLines("0"), brokenLines("0"), longLines("0"), []string{"get 0 A", "put 0 A x", "queue 0 Q 0", "scan 0 a c 0", "put 0 a " + strings.Repeat("x", 41)})
	for _, line := range lines {
		tellsAfter(t, nil, line, "error 7")
		tellsAfter(t, []string{"begin 1"}, line, "error 7")
		tellsAfter(t, []string{"begin 0", "put 0 a x", "commit 0"}, line, "error 7")
		tellsAfter(t, []string{"begin 0", "abort 0"}, line, "error 7")
		tellsAfter(t, []string{"begin 0", "restart 0"}, line, "error 7")
	}
}

func TestSessionsThatAreNone(t *testing.T) {
	for _, s := range []string{"4", "5", "64", "999999"} {
		for _, line := range slices.Concat(deedLines(s), brokenLines(s), longLines(s), []string{"begin " + s, "commit " + s, "abort " + s}) {
			tellsAfter(t, []string{"begin 0"}, line, "error 1")
		}
	}
}

// TestSessionsThatAreNoNumber, and so no session: the line is none of those that there are.
func TestSessionsThatAreNoNumber(t *testing.T) {
	for _, s := range []string{"", "x", "00", "01", "-0", "-1", "+0", "0x0", "0.", "0_0", "\t0", "0\n", "1000000", "4294967296", "18446744073709551616", strings.Repeat("0", 99), "٠"} {
		for _, line := range slices.Concat(deedLines(s), brokenLines(s), longLines(s), []string{"begin " + s, "commit " + s, "abort " + s, "tick " + s, "arm " + s, "restart " + s}) {
			tellsAfter(t, []string{"begin 0"}, line, "error 4")
		}
	}
}

func TestLinesThatAreNone(t *testing.T) {
	lines := slices.Concat(brokenLines("0"), longLines("0"), []string{
		"", "fly", "fly high", "fly 0", "ROWS", "Rows", "row", "rowss", "rows\n", "rows 0", "now 0", "save 0", "vacuum 0", "0", "-", "ok", "error 4",
		"begin", "commit", "abort", "tick", "arm", "restart", "begin x", "Begin 0", "BEGIN 0", "begin\t0", "begin0",
		"get", "put", "delete", "scan", "queue", "send", "receive", "ack", "wait", "messages",
		"get 0", "put 0", "delete 0", "scan 0", "queue 0", "send 0", "receive 0", "ack 0", "wait 0", "messages 0",
		strings.Repeat("x", 201), strings.Repeat(" ", 201), "begin " + strings.Repeat("0", 201), strings.Repeat("x", 300) + " 0", "rows" + strings.Repeat(" ", 197),
		strings.Repeat("x", 1<<20), strings.Repeat(" ", 1<<20), "\x00", "\xff\xfe", "begin \xff",
	})
	for _, line := range lines {
		tellsAfter(t, []string{"begin 0"}, line, "error 4")
	}
	for _, s := range []string{"1", "4"} { // of two words: no deed is asked for
		for _, line := range []string{"get " + s, "put " + s, "messages " + s, "fly " + s} {
			tellsAfter(t, []string{"begin 0"}, line, "error 4")
		}
	}
}

// TestErrorsChangeNothing: of what a deed sees and has read and changed, of the time, and of who has begun.
func TestErrorsChangeNothing(t *testing.T) {
	lines := slices.Concat(brokenLines("0"), longLines("0"), brokenLines("1"), brokenLines("4"),
		[]string{"begin 0", "begin 4", "commit 1", "abort 1", "tick 1000000", "put 0 A x", "delete 0 A", "queue 0 q 0", "queue 0 q 1 d", "send 0 q x", "scan 0 a z 0", ""})
	for _, line := range lines {
		answers := run(t, "begin 0", "put 0 a x", "begin 2", "tick 3", line,
			"scan 0 a z 9", "messages 0 q", "put 2 c y", "commit 2", "now", "commit 0", "rows", "now", "begin 0")
		if !strings.HasPrefix(answers[4], "error ") {
			t.Errorf("%q is answered by %q", line, answers[4])
		}
		want := []string{"t/a x", "error 5", "ok", "1", "1 3", "error 9", "t/c y", "1 3", "ok"}
		if !slices.Equal(answers[5:], want) {
			t.Errorf("Z1: behind %q it is told %q", line, answers[5:])
		}
	}
}

// TestLinesThatAreJustNotTooLong are read: the layers refuse what they say.
func TestLinesThatAreJustNotTooLong(t *testing.T) {
	for _, c := range []struct{ begin, read string }{
		{"get 0 ", "error 3"}, {"put 0 a ", "error 1"}, {"put 0 ", "error 4"}, {"delete 0 ", "error 3"},
		{"send 0 q ", "error 1"}, {"messages 0 ", "error 3"}, {"scan 0 a c ", "error 4"}, {"scan 0 b c", "error 4"},
	} {
		fill := strings.Repeat("z", api.MaxLine-len(c.begin))
		ahead := []string{"begin 0", "queue 0 q 1"}
		tellsAfter(t, ahead, c.begin+fill, c.read)
		tellsAfter(t, ahead, c.begin+fill+"z", "error 4")
	}
	line := "scan 0 a 1"
	key := strings.Repeat("z", api.MaxLine-len(line)-1)
	tellsAfter(t, []string{"begin 0", "put 0 a x"}, "scan 0 a "+key+" 1", "t/a x")
	tellsAfter(t, []string{"begin 0", "put 0 a x"}, "scan 0 a z"+key+" 1", "error 4")
}

func TestNumbersOfErrors(t *testing.T) {
	ahead := []string{"begin 0", "queue 0 q 1", "send 0 q x", "queue 0 r 1"}
	for want, line := range map[api.Errno]string{
		api.ErrBound: "begin 4", api.ErrShape: "get 0 A", api.ErrText: "fly", api.ErrNone: "send 0 s x", api.ErrExist: "queue 0 q 1",
		api.ErrState: "begin 0", api.ErrLate: "ack 0 q 1 1", api.ErrEmpty: "receive 0 r 1",
	} {
		tellsAfter(t, ahead, line, "error "+strconv.Itoa(int(want)))
	}
}
