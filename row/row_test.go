package row_test

import (
	"math"
	"regexp"
	"strconv"
	"strings"
	"testing"

	"haywain/api"
	"haywain/row"
	"haywain/span"
)

// The document's words, written a second time in another way.
var (
	nameForm    = regexp.MustCompile(`^[a-z][a-z0-9]{0,5}$`)
	keyForm     = regexp.MustCompile(`^([tq]/[a-z][a-z0-9]{0,5}|m/[a-z][a-z0-9]{0,5}/[0-9]{6})$`)
	queueForm   = regexp.MustCompile(`^(0|[1-9][0-9]{0,5}) [1-9] ([a-z][a-z0-9]{0,5})?$`)
	messageForm = regexp.MustCompile(`(?s)^[0-9] (0|[1-9][0-9]*) (.*)$`)
)

// textsOf: every text of at most so many of these pieces.
func textsOf(pieces []string, most int) []string {
	all := []string{""}
	last := all
	for range most {
		var longer []string
		for _, s := range last {
			for _, p := range pieces {
				longer = append(longer, s+p)
			}
		}
		all = append(all, longer...)
		last = longer
	}
	return all
}

func TestNameOrdinary(t *testing.T) {
	for _, s := range []string{"a", "z", "ab", "a0", "z9", "work", "dead", "abcdef", "a12345"} {
		if !row.Name(s) {
			t.Errorf("A1: Name(%q) is false", s)
		}
	}
}

func TestNameWrong(t *testing.T) {
	for _, s := range []string{"", "0", "9a", "A", "aB", "abcdefg", "a12345678", "a b", " a", "a ", "a/", "a-b", "a_b", "é", "aé", "a\x00", "\x00", "a\xff", "a\n"} {
		if row.Name(s) {
			t.Errorf("A1: Name(%q) is true", s)
		}
	}
}

func TestNameEveryByte(t *testing.T) {
	for b := range 256 {
		one := string([]byte{byte(b)})
		letter := 'a' <= b && b <= 'z'
		digit := '0' <= b && b <= '9'
		if got := row.Name(one); got != letter {
			t.Errorf("A1: Name(%q) = %v", one, got)
		}
		for _, s := range []string{"a" + one, "abcde" + one, "a" + one + "b"} {
			if got := row.Name(s); got != (letter || digit) {
				t.Errorf("A1: Name(%q) = %v", s, got)
			}
		}
	}
}

func TestNameAllShort(t *testing.T) {
	for _, s := range textsOf([]string{"a", "z", "0", "9", "/"}, 7) {
		if got, want := row.Name(s), nameForm.MatchString(s); got != want {
			t.Errorf("A1: Name(%q) = %v", s, got)
		}
	}
}

func TestKeys(t *testing.T) {
	for _, name := range []string{"a", "work", "", "No name", "a/b", strings.Repeat("x", 300)} {
		if got := row.Table(name); got != "t/"+name {
			t.Errorf("A1: Table(%q) = %q", name, got)
		}
		if got := row.Queue(name); got != "q/"+name {
			t.Errorf("A1: Queue(%q) = %q", name, got)
		}
		if got := row.Message(name, 7); got != "m/"+name+"/000007" {
			t.Errorf("A1: Message(%q, 7) = %q", name, got)
		}
		if got, want := row.Messages(name), (api.Span{From: "m/" + name + "/", To: "m/" + name + "0"}); got != want {
			t.Errorf("A1: Messages(%q) = %q", name, got)
		}
	}
}

func TestMessageNumbers(t *testing.T) {
	for n, want := range map[int]string{
		0: "000000", 1: "000001", 10: "000010", 99999: "099999", 100000: "100000", 999999: "999999",
		1000000: "000000", 1000001: "000001", 1999999: "999999", 12345678: "345678",
		-1: "000000", -999999: "000000", -1000001: "000000", math.MinInt: "000000", math.MaxInt: "775807",
	} {
		if got := row.Message("work", n); got != "m/work/"+want {
			t.Errorf("A1: Message(work, %d) = %q", n, got)
		}
	}
}

func TestMessagesHaveTheirRowsAlone(t *testing.T) {
	s := row.Messages("ab")
	for _, n := range []int{0, 1, 500000, 999999} {
		if key := row.Message("ab", n); !span.Has(s, key) {
			t.Errorf("A1: Messages(ab) lacks %q", key)
		}
	}
	for _, key := range []string{row.Message("a", 0), row.Message("ab0", 0), row.Message("abc", 0), row.Message("aa", 999999), row.Message("b", 0), row.Queue("ab"), row.Table("ab")} {
		if span.Has(s, key) {
			t.Errorf("A1: Messages(ab) has %q", key)
		}
	}
}

func TestCheckOrdinary(t *testing.T) {
	for _, key := range []string{"t/a", "t/abcdef", "q/work", "q/a12345", "m/q/000000", "m/work/999999", "m/abcdef/123456", row.Table("hay"), row.Queue("hay"), row.Message("hay", 12)} {
		if err := row.Check(key); err != nil {
			t.Errorf("A2: Check(%q) = %v", key, err)
		}
	}
}

func TestCheckWrong(t *testing.T) {
	for _, key := range []string{
		"", "t", "t/", "q/", "m/", "/", "a", "x/a", "T/a", "t/A", "t/0", "t/abcdefg", "t//a", "t/a/", "t/a/000000", "q/a/000000",
		"m/q", "m/q/", "m//000000", "m/q/1", "m/q/00000", "m/q/0000000", "m/q/00000a", "m/q/-00001", "m/q/+00001", "m/q/ 00001", "m/Q/000000",
		"m/abcdefg/000000", "m/q/000000/", "m/q//000000", "m/q/00000\x00", "t/a\x00", " t/a", "t/a ", "tt/a", "m/q/00000٠",
	} {
		if err := row.Check(key); err != api.ErrShape {
			t.Errorf("A2: Check(%q) = %v", key, err)
		}
	}
}

func TestCheckAllShort(t *testing.T) {
	for _, key := range textsOf([]string{"t/", "q/", "m/", "a", "0", "000", "/"}, 6) {
		if got, want := row.Check(key) == nil, keyForm.MatchString(key); got != want {
			t.Errorf("A2: Check(%q) == nil is %v", key, got)
		}
	}
}

func TestQueueText(t *testing.T) {
	for want, q := range map[string]api.Queue{
		"0 1 ":            {Next: 0, Tries: 1},
		"2 2 dead":        {Next: 2, Tries: 2, Dead: "dead"},
		"999999 9 abcdef": {Next: 999999, Tries: 9, Dead: "abcdef"},
		"10 3 a0":         {Next: 10, Tries: 3, Dead: "a0"},
	} {
		if got, err := row.QueueText(q); got != want || err != nil {
			t.Errorf("A3: QueueText(%v) = %q, %v", q, got, err)
		}
		if got, err := row.ParseQueue(want); got != q || err != nil {
			t.Errorf("A3: ParseQueue(%q) = %v, %v", want, got, err)
		}
	}
}

func TestQueueTextWrong(t *testing.T) {
	for _, c := range []struct {
		q    api.Queue
		want api.Errno
	}{
		{api.Queue{Next: -1, Tries: 1}, api.ErrBound},
		{api.Queue{Next: 1000000, Tries: 1}, api.ErrBound},
		{api.Queue{Next: math.MinInt, Tries: 1}, api.ErrBound},
		{api.Queue{Next: math.MaxInt, Tries: 1}, api.ErrBound},
		{api.Queue{Next: 0, Tries: 0}, api.ErrBound},
		{api.Queue{Next: 0, Tries: 10}, api.ErrBound},
		{api.Queue{Next: 0, Tries: math.MinInt}, api.ErrBound},
		{api.Queue{Next: 0, Tries: math.MaxInt}, api.ErrBound},
		{api.Queue{Next: 0, Tries: 1, Dead: "A"}, api.ErrShape},
		{api.Queue{Next: 0, Tries: 1, Dead: "abcdefg"}, api.ErrShape},
		{api.Queue{Next: 0, Tries: 1, Dead: " "}, api.ErrShape},
		{api.Queue{Next: -1, Tries: 1, Dead: "A"}, api.ErrBound}, // the one named first
		{api.Queue{Next: 0, Tries: 0, Dead: "A"}, api.ErrBound},
	} {
		if got, err := row.QueueText(c.q); got != "" || err != c.want {
			t.Errorf("A3, Z1, Z3: QueueText(%v) = %q, %v", c.q, got, err)
		}
	}
}

func TestParseQueueWrong(t *testing.T) {
	for _, s := range []string{
		"", " ", "  ", "1", "1 ", "1 2", " 1 2 ", "1  2 ", "1 2  ", "1 2 d ", "1 2 d d", "01 2 x", "1 02 x", "+1 2 x", "1 +2 x", "-1 2 x", "-0 2 x", "1 -2 x",
		"1 0 x", "1 10 x", "1000000 2 x", "x 1 y", "1 x y", "1 2 A", "1 2 abcdefg", "1 2 0", "1 2 \x00", "1\t2 ", "1 2 x\n", "1.0 2 x", "1e0 2 x", "0x1 2 x", "1_0 2 x",
		"99999999999999999999 2 x", "9223372036854775808 2 x", "18446744073709551617 2 x", "1 18446744073709551617 x", "-9223372036854775809 2 x", "١ 2 x",
	} {
		if got, err := row.ParseQueue(s); got != (api.Queue{}) || err != api.ErrText {
			t.Errorf("A3, Z1, Z3: ParseQueue(%q) = %v, %v", s, got, err)
		}
	}
}

func TestParseQueueAllShort(t *testing.T) {
	for _, s := range textsOf([]string{"0", "1", "99", " ", "a", "-", "+"}, 6) {
		q, err := row.ParseQueue(s)
		if queueForm.MatchString(s) != (err == nil) {
			t.Errorf("A3: ParseQueue(%q) = %v, %v", s, q, err)
		}
		if err != nil {
			continue
		}
		if text, err := row.QueueText(q); text != s || err != nil {
			t.Errorf("W6: %q is read as %v, which is written as %q, %v", s, q, text, err)
		}
	}
}

func TestQueuesAreReadAsWritten(t *testing.T) {
	for _, next := range []int{0, 1, 9, 10, 99, 100, 99999, 100000, 999999} {
		for tries := 1; tries <= 9; tries++ {
			for _, dead := range []string{"", "d", "dead", "a12345"} {
				q := api.Queue{Next: next, Tries: tries, Dead: dead}
				s, err := row.QueueText(q)
				if err != nil || len(s) > api.MaxVal {
					t.Fatalf("A3: QueueText(%v) = %q, %v", q, s, err)
				}
				if got, err := row.ParseQueue(s); got != q || err != nil {
					t.Errorf("W6: %v is written as %q, which is read as %v, %v", q, s, got, err)
				}
			}
		}
	}
}

func TestMessageText(t *testing.T) {
	long := strings.Repeat("x", 28)
	for want, m := range map[string]api.Message{
		"0 0 first":             {Number: 7, Body: "first"},
		"1 8 third":             {Number: 7, Tries: 1, Until: 8, Body: "third"},
		"0 0 ":                  {Number: 7},
		"9 2000000 " + long:     {Number: 7, Tries: 9, Until: 2000000, Body: long},
		"1 5 a b":               {Number: 7, Tries: 1, Until: 5, Body: "a b"},
		"1 5   a ":              {Number: 7, Tries: 1, Until: 5, Body: "  a "},
		"3 1000001 \x00\n\xff;": {Number: 7, Tries: 3, Until: 1000001, Body: "\x00\n\xff;"},
	} {
		if got, err := row.MessageText(m); got != want || err != nil {
			t.Errorf("A4: MessageText(%v) = %q, %v", m, got, err)
		}
		if got, err := row.ParseMessage(7, want); got != m || err != nil {
			t.Errorf("A4: ParseMessage(7, %q) = %v, %v", want, got, err)
		}
	}
}

func TestMessageNumberIsNotInTheText(t *testing.T) {
	for _, n := range []int{0, 1, 999999, 1000000, -1, math.MinInt, math.MaxInt} {
		if got, err := row.MessageText(api.Message{Number: n, Tries: 1, Until: 2, Body: "hay"}); got != "1 2 hay" || err != nil {
			t.Errorf("A4: MessageText with the number %d = %q, %v", n, got, err)
		}
		want := api.Message{Number: n, Tries: 1, Until: 2, Body: "hay"}
		if got, err := row.ParseMessage(n, "1 2 hay"); got != want || err != nil {
			t.Errorf("A4: ParseMessage(%d, ..) = %v, %v", n, got, err)
		}
		if got, err := row.ParseMessage(n, "1 2"); got != (api.Message{}) || err != api.ErrText {
			t.Errorf("A4, Z1: ParseMessage(%d, no text) = %v, %v", n, got, err)
		}
	}
}

func TestMessageTextWrong(t *testing.T) {
	for _, m := range []api.Message{
		{Tries: -1}, {Tries: 10}, {Tries: math.MinInt}, {Tries: math.MaxInt},
		{Until: -1}, {Until: 2000001}, {Until: math.MinInt}, {Until: math.MaxInt},
		{Body: strings.Repeat("x", 29)}, {Body: strings.Repeat("é", 15)}, {Body: strings.Repeat("x", 100000)},
	} {
		if got, err := row.MessageText(m); got != "" || err != api.ErrBound {
			t.Errorf("A4, Z1, Z3: MessageText(%d %d, %d bytes) = %q, %v", m.Tries, m.Until, len(m.Body), got, err)
		}
	}
}

func TestParseMessageWrong(t *testing.T) {
	for _, s := range []string{
		"", " ", "0", "0 0", "0  0 x", " 0 0 x", "00 0 x", "0 00 x", "0 01 x", "10 0 x", "-1 0 x", "-0 0 x", "+1 0 x", "0 +1 x", "0 -1 x", "0 2000001 x", "x 0 y", "0 x y",
		"0 0 " + strings.Repeat("x", 29), "0 99999999999999999999 x", "0 18446744073709551616 x", "0\t0 x", "0 0x1 y", "1_ 0 x",
	} {
		if got, err := row.ParseMessage(7, s); got != (api.Message{}) || err != api.ErrText {
			t.Errorf("A4, Z1, Z3: ParseMessage(7, %q) = %v, %v", s, got, err)
		}
	}
}

func TestParseMessageAllShort(t *testing.T) {
	for _, s := range textsOf([]string{"0", "2", "000000", " ", "x", "-"}, 6) {
		m, err := row.ParseMessage(3, s)
		if isMessageText(s) != (err == nil) {
			t.Errorf("A4: ParseMessage(3, %q) = %v, %v", s, m, err)
		}
		if err != nil {
			continue
		}
		if text, err := row.MessageText(m); text != s || err != nil || m.Number != 3 {
			t.Errorf("W6: %q is read as %v, which is written as %q, %v", s, m, text, err)
		}
	}
}

// isMessageText: is it what A4 says?
func isMessageText(s string) bool {
	l := messageForm.FindStringSubmatch(s)
	if l == nil || len(l[2]) > 28 {
		return false
	}
	until, err := strconv.Atoi(l[1])
	return err == nil && until <= 2000000
}

func TestMessagesAreReadAsWritten(t *testing.T) {
	for tries := range 10 {
		for _, until := range []int{0, 1, 9, 10, 999999, 1000000, 1999999, 2000000} {
			for _, body := range []string{"", " ", "hay", "a b", "1 2 3", strings.Repeat(" ", 28), "\x00\xff"} {
				m := api.Message{Number: 12, Tries: tries, Until: until, Body: body}
				s, err := row.MessageText(m)
				if err != nil || len(s) > api.MaxVal {
					t.Fatalf("A4: MessageText(%v) = %q, %v", m, s, err)
				}
				if got, err := row.ParseMessage(12, s); got != m || err != nil {
					t.Errorf("W6: %v is written as %q, which is read as %v, %v", m, s, got, err)
				}
			}
		}
	}
}

func TestNothingPanics(t *testing.T) {
	texts := []string{"", "\x00", "\xff\xfe", " ", "  ", "m/", "m//", strings.Repeat("0", 100000), strings.Repeat(" ", 100000), strings.Repeat("m/", 50000)}
	for _, s := range texts {
		for _, n := range []int{math.MinInt, -1, 0, 1, math.MaxInt} {
			row.Name(s)
			row.Message(s, n)
			row.Messages(s)
			row.Check(s)
			row.QueueText(api.Queue{Next: n, Tries: n, Dead: s})
			row.ParseQueue(s)
			row.MessageText(api.Message{Number: n, Tries: n, Until: n, Body: s})
			row.ParseMessage(n, s)
		}
	}
}
