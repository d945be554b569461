package console_test

import (
	"slices"
	"strconv"
	"strings"
	"testing"

	"haywain/api"
	"haywain/console"
)

// run lines, of which each is answered.
func run(t *testing.T, lines ...string) []string {
	t.Helper()
	answers, err := console.Run(lines)
	if err != nil || len(answers) != len(lines) {
		t.Fatalf("M1: Run of %d lines = %d answers, %v", len(lines), len(answers), err)
	}
	return answers
}

// tells: a line, and what it is to be answered, in turns.
func tells(t *testing.T, l ...string) {
	t.Helper()
	var lines []string
	for i := 0; i < len(l); i += 2 {
		lines = append(lines, l[i])
	}
	for i, answer := range run(t, lines...) {
		if want := l[2*i+1]; answer != want {
			t.Errorf("line %d, %q, is answered by %q, not by %q", i, lines[i], answer, want)
		}
	}
}

// tellsAfter these lines.
func tellsAfter(t *testing.T, ahead []string, line, want string) {
	t.Helper()
	answers := run(t, append(slices.Clone(ahead), line)...)
	if answer := answers[len(ahead)]; answer != want {
		t.Errorf("%q is answered by %q, not by %q", line, answer, want)
	}
}

const exampleSession = `begin 0 => ok
put 0 a hay => ok
queue 0 dead 1 => ok
queue 0 work 2 dead => ok
send 0 work first => 0
send 0 work second => 1
commit 0 => 1
rows => m/work/000000 0 0 first; m/work/000001 0 0 second; q/dead 0 1 ; q/work 2 2 dead; t/a hay
begin 0 => ok
begin 1 => ok
get 0 a => is hay
get 1 a => is hay
put 0 a hay oats => ok
put 1 a straw => ok
commit 1 => 2
commit 0 => error 9
begin 2 => ok
scan 2 a z 9 => t/a straw
begin 0 => ok
receive 0 work 5 => 0 1 5 first
commit 0 => 3
begin 1 => ok
receive 1 work 5 => 1 1 5 second
ack 1 work 1 1 => ok
commit 1 => 4
tick 5 => ok
begin 1 => ok
receive 1 work 0 => 0 2 5 first
commit 1 => 5
begin 1 => ok
receive 1 work 0 => error 12
messages 1 dead => -
send 1 work third => 2
receive 1 work 3 => 2 1 8 third
messages 1 dead => 0 0 0 first
ack 1 work 0 1 => error 11
commit 1 => 6
get 2 b => none
commit 2 => 2
now => 6 5
vacuum => ok
save => ok
restart 0 => ok
rows => m/dead/000000 0 0 first; m/work/000002 1 8 third; q/dead 1 1 ; q/work 3 2 dead; t/a straw
begin 9 => error 1
put 0 a b => error 7
fly high => error 4`

func TestExampleOfTheDocument(t *testing.T) {
	var l []string
	for _, line := range strings.Split(exampleSession, "\n") {
		said, want, _ := strings.Cut(line, " => ")
		l = append(l, said, want)
	}
	tells(t, l...)
}

func TestNoLines(t *testing.T) {
	for _, lines := range [][]string{nil, {}} {
		if answers, err := console.Run(lines); len(answers) != 0 || err != nil {
			t.Errorf("M1: Run(%#v) = %q, %v", lines, answers, err)
		}
	}
}

func TestSoManyLines(t *testing.T) {
	for _, line := range []string{"now", "", strings.Repeat("x", api.MaxLine+1)} {
		lines := slices.Repeat([]string{line}, api.MaxLines)
		run(t, lines...)
		if answers, err := console.Run(append(lines, line)); len(answers) != 0 || err != api.ErrMany {
			t.Errorf("M1, Z1: Run of 81 lines = %q, %v", answers, err)
		}
	}
}

func TestBeginCommitAbort(t *testing.T) {
	tells(t,
		"commit 0", "error 7", "abort 0", "error 7",
		"begin 0", "ok", "begin 0", "error 7", "begin 3", "ok",
		"commit 3", "0", "commit 3", "error 7",
		"put 0 a x", "ok", "abort 0", "ok", "abort 0", "error 7",
		"rows", "-", "now", "0 0",
		"begin 0", "ok", "put 0 a y", "ok", "commit 0", "1",
		"begin 1", "ok", "begin 0", "ok", "put 0 b z", "ok", "commit 0", "2", "commit 1", "1",
		"rows", "t/a y; t/b z", "now", "2 0",
	)
}

func TestSomebodyWasAhead(t *testing.T) {
	tells(t,
		"begin 0", "ok", "begin 1", "ok", "begin 2", "ok", "begin 3", "ok",
		"get 0 a", "none", "scan 1 a c 9", "-", "scan 2 c d 9", "-", "put 0 x 0", "ok", "put 1 x 1", "ok", "put 2 x 2", "ok",
		"put 3 b 3", "ok", "commit 3", "1",
		"commit 0", "2", "commit 1", "error 9", "commit 1", "error 7", "commit 2", "3",
		"rows", "t/b 3; t/x 2",
	)
}

func TestGetPutDelete(t *testing.T) {
	tells(t,
		"begin 0", "ok",
		"get 0 a", "none", "put 0 a x", "ok", "get 0 a", "is x",
		"put 0 a y  z ", "ok", "get 0 a", "is y  z ",
		"put 0 a ", "ok", "get 0 a", "is ",
		"put 0 a  ", "ok", "get 0 a", "is  ",
		"put 0 b none", "ok", "get 0 b", "is none",
		"put 0 abc123 \x00\n\xff", "ok", "get 0 abc123", "is \x00\n\xff",
		"delete 0 a", "ok", "get 0 a", "none", "delete 0 zz", "ok",
		"commit 0", "1", "rows", "t/abc123 \x00\n\xff; t/b none",
		"begin 0", "ok", "delete 0 b", "ok", "delete 0 abc123", "ok", "commit 0", "2", "rows", "-",
	)
}

// TestKeysAreOfTheTable: no row of a queue or of a message is meant by a key.
func TestKeysAreOfTheTable(t *testing.T) {
	tells(t,
		"begin 0", "ok", "queue 0 q 1", "ok", "send 0 q hay", "0",
		"get 0 q", "none", "scan 0 a z 9", "-", "put 0 q x", "ok", "delete 0 q", "ok",
		"messages 0 q", "0 0 0 hay", "get 0 t/a", "error 3", "get 0 q/q", "error 3",
		"commit 0", "1", "rows", "m/q/000000 0 0 hay; q/q 1 1 ",
	)
}

func TestKeysThatMayNotBe(t *testing.T) {
	for _, key := range []string{"A", "1a", "abcdefg", "a/b", "ä", "\x00", ";", "-"} {
		for _, line := range []string{"get 0 " + key, "put 0 " + key + " x", "put 0 " + key + " ", "delete 0 " + key} {
			tellsAfter(t, []string{"begin 0"}, line, "error 3")
		}
		for _, line := range []string{"queue 0 " + key + " 1", "queue 0 q 1 " + key, "send 0 " + key + " x", "receive 0 " + key + " 1",
			"ack 0 " + key + " 0 1", "wait 0 " + key + " 0 1 1", "messages 0 " + key} {
			tellsAfter(t, []string{"begin 0"}, line, "error 3")
		}
	}
}

// TestEmptyWords: each blank parts two words, and an empty one is no name.
func TestEmptyWords(t *testing.T) {
	ahead := []string{"begin 0", "put 0 a x"}
	for _, line := range []string{"get 0 ", "put 0  x", "delete 0 ", "queue 0  1", "send 0  x", "receive 0  1", "ack 0  0 1", "wait 0  0 1 1", "messages 0 "} {
		tellsAfter(t, ahead, line, "error 3")
	}
	for _, line := range []string{"", " ", "  ", " get 0 a", "get  0 a", "get 0  a", "get 0 a ", "begin 0 ", " begin 1", "begin  1", "begin ",
		"rows ", " rows", "now ", "tick 0 ", "tick  1", "scan 0 a  9 ", "scan 0 a c 9 ", "ack 0 q 0 1 ", "ack 0 q  1", "receive 0 q ", "queue 0 q "} {
		tellsAfter(t, ahead, line, "error 4")
	}
	tellsAfter(t, ahead, "scan 0  b 9", "t/a x")
}

func TestScan(t *testing.T) {
	tells(t,
		"begin 0", "ok", "put 0 b 2", "ok", "put 0 a 1; 2", "ok", "put 0 c3 ", "ok", "put 0 d 4", "ok",
		"scan 0 a z 9", "t/a 1; 2; t/b 2; t/c3 ; t/d 4",
		"scan 0 a z 999999", "t/a 1; 2; t/b 2; t/c3 ; t/d 4",
		"scan 0 a z 2", "t/a 1; 2; t/b 2", "scan 0 a z 1", "t/a 1; 2", "scan 0 a z 0", "error 1",
		"scan 0 b d 9", "t/b 2; t/c3 ", "scan 0 b1 d 9", "t/c3 ", "scan 0 b b 9", "-", "scan 0 c b 9", "-",
		"scan 0 c3 c4 1", "t/c3 ", "scan 0 A ~ 9", "t/a 1; 2; t/b 2; t/c3 ; t/d 4",
		"commit 0", "1", "begin 0", "ok", "delete 0 b", "ok", "put 0 e 5", "ok",
		"scan 0 a z 9", "t/a 1; 2; t/c3 ; t/d 4; t/e 5",
	)
}

func TestQueues(t *testing.T) {
	tells(t,
		"begin 0", "ok",
		"queue 0 d 1", "ok", "queue 0 d 1", "error 6", "queue 0 q 2 d", "ok", "queue 0 r 9 x", "error 5", "queue 0 r 9 r", "error 3",
		"queue 0 r 0", "error 1", "queue 0 r 10", "error 1", "queue 0 r 9", "ok", "queue 0 s 1 ", "ok",
		"send 0 x hay", "error 5", "receive 0 x 1", "error 5", "ack 0 x 0 1", "error 5", "wait 0 x 0 1 1", "error 5", "messages 0 x", "error 5",
		"send 0 q hay", "0", "send 0 q ", "1", "send 0 q  oats and; straw ", "2",
		"messages 0 q", "0 0 0 hay; 1 0 0 ; 2 0 0  oats and; straw ", "messages 0 d", "-",
		"commit 0", "1",
		"rows", "m/q/000000 0 0 hay; m/q/000001 0 0 ; m/q/000002 0 0  oats and; straw ; q/d 0 1 ; q/q 3 2 d; q/r 0 9 ; q/s 0 1 ",
	)
}

func TestMessagesAndTheTime(t *testing.T) {
	tells(t,
		"begin 0", "ok", "queue 0 d 1", "ok", "queue 0 q 2 d", "ok", "tick 7", "ok",
		"send 0 q hay", "0", "tick 3", "ok", "send 0 q oats", "1", "messages 0 q", "0 0 7 hay; 1 0 10 oats",
		"receive 0 q 5", "0 1 15 hay", "receive 0 q 0", "1 1 10 oats",
		"wait 0 q 0 2 10", "error 11", "wait 0 q 0 0 10", "error 1", "wait 0 q 5 1 10", "error 11", "wait 0 q 0 1 11", "ok",
		"receive 0 q 999999", "1 2 1000009 oats", "receive 0 q 1", "error 12",
		"tick 1", "ok", "receive 0 q 0", "0 2 11 hay", "receive 0 q 0", "error 12",
		"messages 0 q", "0 2 11 hay; 1 2 1000009 oats", "messages 0 d", "-",
		"send 0 q straw", "2", "receive 0 q 1", "2 1 12 straw",
		"messages 0 d", "0 0 0 hay",
		"ack 0 q 1 1", "error 11", "ack 0 q 1 0", "error 1", "ack 0 q 999999 1", "error 11", "ack 0 q 1 2", "ok", "ack 0 q 1 2", "error 11",
		"messages 0 q", "2 1 12 straw", "commit 0", "1", "now", "1 11",
	)
}

func TestTick(t *testing.T) {
	tells(t,
		"now", "0 0", "tick 0", "ok", "tick 1", "ok", "now", "0 1", "tick 999999", "ok", "now", "0 1000000",
		"tick 1", "error 1", "tick 999999", "error 1", "now", "0 1000000", "tick 0", "ok",
		"tick 1000000", "error 4", "tick -1", "error 4", "tick", "error 4", "tick x", "error 4",
		"begin 0", "ok", "queue 0 q 1", "ok", "send 0 q hay", "0", "receive 0 q 999999", "0 1 1999999 hay", "restart 0", "ok", "now", "0 1000000",
	)
	tells(t, "tick 999999", "ok", "tick 2", "error 1", "now", "0 999999", "tick 1", "ok", "now", "0 1000000")
}

// TestWhatADeedSees stays as it was, whatever is laid, or kept no more.
func TestWhatADeedSees(t *testing.T) {
	tells(t,
		"vacuum", "ok", "save", "ok",
		"begin 0", "ok", "put 0 a old", "ok", "commit 0", "1", "begin 1", "ok",
		"begin 0", "ok", "put 0 a new", "ok", "commit 0", "2", "vacuum", "ok", "save", "ok",
		"get 1 a", "is old", "rows", "t/a new", "now", "2 0", "commit 1", "1", "vacuum", "ok",
		"begin 1", "ok", "get 1 a", "is new",
	)
}

func TestRestart(t *testing.T) {
	for _, n := range []string{"0", "1", "999999"} {
		for _, save := range []string{"save", "vacuum"} {
			tells(t,
				"begin 0", "ok", "put 0 a x", "ok", "commit 0", "1", "begin 1", "ok", "put 1 a y", "ok", "tick 4", "ok", save, "ok",
				"restart "+n, "ok", "rows", "t/a x", "now", "0 4", "get 1 a", "error 7", "commit 1", "error 7",
				"begin 1", "ok", "get 1 a", "is x", "put 1 b z", "ok", "commit 1", "1", "restart "+n, "ok", "rows", "t/a x; t/b z",
			)
		}
	}
}

func TestLimitsOfADeed(t *testing.T) {
	changes := []string{"begin 0", "ok"}
	for i := range api.MaxChanges {
		changes = append(changes, "put 0 a"+strconv.Itoa(i)+" x", "ok")
	}
	tells(t, append(changes, "put 0 b x", "error 2", "delete 0 b", "error 2", "put 0 a3 y", "ok", "delete 0 a4", "ok")...)

	reads := []string{"begin 0", "ok"}
	for i := range api.MaxReads {
		reads = append(reads, "get 0 a"+strconv.Itoa(i), "none")
	}
	tells(t, append(reads, "get 0 b", "error 2", "scan 0 a b 1", "error 2", "messages 0 q", "error 2", "get 0 a7", "none")...)
}

// TestLimitOfRows: a deed that has no room stays begun, and goes on.
func TestLimitOfRows(t *testing.T) {
	var l []string
	for deed := range 4 {
		l = append(l, "begin 0", "ok")
		for i := range 10 {
			l = append(l, "put 0 a"+strconv.Itoa(10*deed+i)+" x", "ok")
		}
		l = append(l, "commit 0", strconv.Itoa(deed+1))
	}
	tells(t, append(l, "begin 0", "ok", "put 0 b x", "ok", "commit 0", "error 8", "now", "4 0", "get 0 b", "is x", "delete 0 a0", "ok", "commit 0", "5")...)
}

func TestLimitsOfTexts(t *testing.T) {
	val, body := strings.Repeat("v", api.MaxVal), strings.Repeat("b", api.MaxVal-12)
	tells(t,
		"begin 0", "ok", "put 0 a "+val, "ok", "put 0 a "+val+"v", "error 1", "get 0 a", "is "+val,
		"queue 0 q 1", "ok", "send 0 q "+body, "0", "send 0 q "+body+"b", "error 1", "messages 0 q", "0 0 0 "+body,
	)
}

func TestRunWritesNoLine(t *testing.T) {
	held := []string{"begin 0", "put 0 a x", "commit 0", "rows", "behind"}
	want := slices.Clone(held)
	first := run(t, held[:4]...)
	if !slices.Equal(held, want) {
		t.Errorf("Z2: Run made %q of its lines", held)
	}
	told := slices.Clone(first)
	for i := range first {
		first[i] = "another"
	}
	if again := run(t, held[:4]...); !slices.Equal(again, told) {
		t.Errorf("Z2: Run answers %q first, then %q", told, again)
	}
	if answers, err := console.Run(held[:4:4]); err != nil || len(answers) != 4 {
		t.Errorf("Z2: Run hangs on what is behind its lines: %q, %v", answers, err)
	}
}

// TestRunsAreApart: what one did is nothing to another, also at the same time.
func TestRunsAreApart(t *testing.T) {
	const many = 8
	answers := make([][]string, many)
	done := make(chan int)
	for i := range many {
		go func() {
			n := strconv.Itoa(i)
			answers[i], _ = console.Run([]string{"rows", "begin 0", "put 0 a " + n, "tick " + n, "commit 0", "rows", "now"})
			done <- i
		}()
	}
	for range many {
		<-done
	}
	for i, got := range answers {
		n := strconv.Itoa(i)
		if want := []string{"-", "ok", "ok", "ok", "1", "t/a " + n, "1 " + n}; !slices.Equal(got, want) {
			t.Errorf("Z2: the run %d is told %q", i, got)
		}
	}
}
