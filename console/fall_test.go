package console_test

import (
	"slices"
	"strconv"
	"strings"
	"testing"

	"haywain/api"
)

// TestFalls at each step, with several of what was written kept: a deed is there whole or not at all, and what was committed stays.
func TestFalls(t *testing.T) {
	const before, behind = "t/a x; t/b x; t/c x", "q/q 0 2 ; t/a y; t/c x"
	fell, stood := false, false
	for steps := range 12 {
		for _, keep := range []string{"0", "1", "2", "3", "5", "6", "7", "15", "999999"} {
			for _, last := range []string{"commit 0", "save"} {
				lines := []string{
					"begin 0", "put 0 a x", "put 0 b x", "put 0 c x", "commit 0", "save",
					"begin 0", "put 0 a y", "delete 0 b", "queue 0 q 2", "arm " + strconv.Itoa(steps), last, "restart " + keep, "rows", "now", "begin 0"}
				asTheClerk(t, lines)
				answers := run(t, lines...)
				told, rows := answers[11], answers[13]
				if told != "error 10" && rows != map[string]string{"commit 0": behind, "save": before}[last] {
					t.Errorf("W5: %s is told %q, and then the rows are %q", last, told, rows)
				}
				if rows != before && rows != behind {
					t.Errorf("W5: behind a fall at the step %d of %s, with %s kept, the rows are %q", steps, last, keep, rows)
				}
				if l := []string{answers[12], answers[14], answers[15]}; !slices.Equal(l, []string{"ok", "0 0", "ok"}) {
					t.Errorf("M1: behind a restart it is told %q", l)
				}
				fell, stood = fell || told == "error 10", stood || told == "2"
			}
		}
	}
	if !fell || !stood {
		t.Errorf("the falls are too early or too late: %v, %v", fell, stood)
	}
}

// TestLinesBehindAFall are answered, all of them, whether it is restarted or not.
func TestLinesBehindAFall(t *testing.T) {
	for steps := range 8 {
		ahead := []string{"begin 0", "put 0 a x", "queue 0 q 1", "begin 1", "arm " + strconv.Itoa(steps), "save", "commit 0", "save"}
		for _, lines := range [][]string{deedLines("0"), deedLines("1"), deedLines("2"), brokenLines("1")} {
			for _, between := range [][]string{nil, {"restart 1", "begin 1"}} {
				for i, answer := range run(t, slices.Concat(ahead, between, lines, []string{"vacuum", "rows", "now", "commit 1", "abort 0"})...) {
					if answer == "" {
						t.Errorf("M2: nothing is answered to the line %d", i)
					}
				}
			}
		}
	}
}

// TestRowsBehindRestarts are as they were committed, deed for deed.
func TestRowsBehindRestarts(t *testing.T) {
	lines := []string{"begin 0", "queue 0 q 9", "put 0 a x", "commit 0"}
	for deed := range 4 {
		lines = append(lines, "begin 0")
		for i := range api.MaxChanges {
			lines = append(lines, "put 0 k"+strconv.Itoa(i)+" "+strconv.Itoa(deed))
		}
		lines = append(lines, "commit 0", "rows", "restart 0", "rows")
	}
	answers := run(t, lines...)
	for i, line := range lines {
		if line == "restart 0" && (answers[i-1] != answers[i+1] || strings.Count(answers[i+1], ";") != 13) {
			t.Errorf("W5: the rows are %q, and behind a restart %q", answers[i-1], answers[i+1])
		}
	}
}
