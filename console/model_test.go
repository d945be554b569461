package console_test

import (
	"errors"
	"math/rand"
	"regexp"
	"slices"
	"strconv"
	"strings"
	"testing"

	"haywain/api"
	"haywain/console"
	"haywain/disk"
	"haywain/engine"
	"haywain/queue"
	"haywain/store"
	"haywain/view"
)

// clerk answers lines by patterns, each whole, and the layers' own calls.
type clerk struct {
	disk *disk.Disk
	e    *engine.Engine
	now  int
}

func newClerk(t *testing.T) *clerk {
	t.Helper()
	d, err := disk.New(api.Sectors)
	if err == nil {
		err = store.Format(d)
	}
	if err != nil {
		t.Fatal(err)
	}
	e, err := engine.New(d)
	if err != nil {
		t.Fatal(err)
	}
	return &clerk{disk: d, e: e}
}

// entry of the chapter's table: a line, and its answer.
type entry struct {
	line   *regexp.Regexp
	answer func(c *clerk, w *view.View, a []string) (string, error)
}

// at: the pattern of a line: N and S a number, W a word, V the rest.
func at(line string) *regexp.Regexp {
	line = strings.NewReplacer("N", `(0|[1-9][0-9]{0,5})`, "W", `([^ ]*)`, "V", `(.*)`).Replace(line)
	return regexp.MustCompile(`(?s)\A` + line + `\z`)
}

func num(s string) int {
	n, _ := strconv.Atoi(s)
	return n
}

func fine(err error) (string, error) { return "ok", err }

func list(l []string) string {
	if len(l) == 0 {
		return "-"
	}
	return strings.Join(l, "; ")
}

func rowList(rows []api.Row) string {
	var l []string
	for _, r := range rows {
		l = append(l, r.Key+" "+r.Val)
	}
	return list(l)
}

func oneMessage(m api.Message) string {
	return strings.Join([]string{strconv.Itoa(m.Number), strconv.Itoa(m.Tries), strconv.Itoa(m.Until), m.Body}, " ")
}

// outside of deeds.
var outside = []entry{
	{at("begin N"), func(c *clerk, _ *view.View, a []string) (string, error) { return fine(c.e.Begin(num(a[1]))) }},
	{at("abort N"), func(c *clerk, _ *view.View, a []string) (string, error) { return fine(c.e.Abort(num(a[1]))) }},
	{at("commit N"), func(c *clerk, _ *view.View, a []string) (string, error) {
		n, err := c.e.Commit(num(a[1]))
		return strconv.Itoa(n), err
	}},
	{at("rows"), func(c *clerk, _ *view.View, _ []string) (string, error) { return rowList(c.e.Rows()), nil }},
	{at("now"), func(c *clerk, _ *view.View, _ []string) (string, error) {
		return strconv.Itoa(c.e.Now()) + " " + strconv.Itoa(c.now), nil
	}},
	{at("tick N"), func(c *clerk, _ *view.View, a []string) (string, error) {
		if c.now+num(a[1]) > api.MaxTime {
			return "", api.ErrBound
		}
		c.now += num(a[1])
		return "ok", nil
	}},
	{at("save"), func(c *clerk, _ *view.View, _ []string) (string, error) { return fine(c.e.Checkpoint()) }},
	{at("vacuum"), func(c *clerk, _ *view.View, _ []string) (string, error) {
		c.e.Vacuum()
		return "ok", nil
	}},
	{at("arm N"), func(c *clerk, _ *view.View, a []string) (string, error) {
		c.disk.Arm(num(a[1]))
		return "ok", nil
	}},
	{at("restart N"), func(c *clerk, _ *view.View, a []string) (string, error) {
		c.disk.Restart(uint64(num(a[1])))
		e, err := engine.New(c.disk)
		c.e = e
		return fine(err)
	}},
}

// within a deed.
var within = []entry{
	{at("get N W"), func(_ *clerk, w *view.View, a []string) (string, error) {
		val, is, err := w.Get("t/" + a[2])
		if !is {
			return "none", err
		}
		return "is " + val, err
	}},
	{at("put N W V"), func(_ *clerk, w *view.View, a []string) (string, error) { return fine(w.Put("t/"+a[2], a[3])) }},
	{at("delete N W"), func(_ *clerk, w *view.View, a []string) (string, error) { return fine(w.Delete("t/" + a[2])) }},
	{at("scan N W W N"), func(_ *clerk, w *view.View, a []string) (string, error) {
		rows, err := w.Scan(api.Span{From: "t/" + a[2], To: "t/" + a[3]}, num(a[4]))
		return rowList(rows), err
	}},
	{at("queue N W N"), func(_ *clerk, w *view.View, a []string) (string, error) {
		return fine(queue.Create(w, a[2], num(a[3]), ""))
	}},
	{at("queue N W N W"), func(_ *clerk, w *view.View, a []string) (string, error) {
		return fine(queue.Create(w, a[2], num(a[3]), a[4]))
	}},
	{at("send N W V"), func(c *clerk, w *view.View, a []string) (string, error) {
		n, err := queue.Send(w, a[2], a[3], c.now)
		return strconv.Itoa(n), err
	}},
	{at("receive N W N"), func(c *clerk, w *view.View, a []string) (string, error) {
		m, err := queue.Receive(w, a[2], c.now, num(a[3]))
		return oneMessage(m), err
	}},
	{at("ack N W N N"), func(_ *clerk, w *view.View, a []string) (string, error) {
		return fine(queue.Ack(w, a[2], num(a[3]), num(a[4])))
	}},
	{at("wait N W N N N"), func(_ *clerk, w *view.View, a []string) (string, error) {
		return fine(queue.Wait(w, a[2], num(a[3]), num(a[4]), num(a[5])))
	}},
	{at("messages N W"), func(_ *clerk, w *view.View, a []string) (string, error) {
		found, err := queue.Messages(w, a[2])
		var l []string
		for _, m := range found {
			l = append(l, oneMessage(m))
		}
		return list(l), err
	}},
}

var hasSession = at("W N V")

func (c *clerk) do(line string) (string, error) {
	table, w := outside, (*view.View)(nil)
	if a := hasSession.FindStringSubmatch(line); a != nil {
		var err error
		if w, err = c.e.Deed(num(a[2])); err != nil {
			return "", err
		}
		table = within
	}
	if len(line) > api.MaxLine {
		return "", api.ErrText
	}
	for _, x := range table {
		if a := x.line.FindStringSubmatch(line); a != nil {
			return x.answer(c, w, a)
		}
	}
	return "", api.ErrText
}

func (c *clerk) answer(line string) string {
	told, err := c.do(line)
	var number api.Errno
	if errors.As(err, &number) {
		return "error " + strconv.Itoa(int(number))
	}
	return told
}

// asTheClerk answers, so does Run.
func asTheClerk(t *testing.T, lines []string) {
	t.Helper()
	c := newClerk(t)
	for i, answer := range run(t, lines...) {
		if want := c.answer(lines[i]); answer != want {
			t.Fatalf("M1, M2: of %q the line %d, %q, is answered by %q, not by %q", lines, i, lines[i], answer, want)
		}
	}
}

func pick(r *rand.Rand, l ...string) string { return l[r.Intn(len(l))] }

// drawn line, that mostly is one of those that there are.
func drawn(r *rand.Rand, s string) string {
	key, name, n := pick(r, "a", "b", "c", "d1"), pick(r, "q", "q", "r", "d"), strconv.Itoa(r.Intn(4))
	switch r.Intn(14) {
	case 0:
		return "get " + s + " " + key
	case 1:
		return "put " + s + " " + key + " " + pick(r, "", "x", "y  z", " ", "; ", strings.Repeat("v", 39+r.Intn(3)))
	case 2:
		return "delete " + s + " " + key
	case 3:
		return "scan " + s + " " + key + " " + pick(r, "b", "d", "z") + " " + n
	case 4:
		return "queue " + s + " " + name + " " + n + pick(r, "", "", " d", " q", " ")
	case 5, 6:
		return "send " + s + " " + name + " " + pick(r, "", "hay", "hay and oats", " ", strings.Repeat("b", 27+r.Intn(3)))
	case 7, 8:
		return "receive " + s + " " + name + " " + n
	case 9:
		return "ack " + s + " " + name + " " + n + " " + strconv.Itoa(r.Intn(3))
	case 10:
		return "wait " + s + " " + name + " " + n + " " + strconv.Itoa(r.Intn(3)) + " " + n
	case 11:
		return "messages " + s + " " + name
	case 12:
		return pick(r, "commit ", "commit ", "commit ", "abort ") + s
	default:
		return pick(r, "rows", "now", "save", "vacuum", "tick "+n, "tick "+n, "restart "+n, "tick 500000")
	}
}

// bent: a line with a word or a byte more, less, or another.
func bent(r *rand.Rand, line string) string {
	words := strings.Split(line, " ")
	i := r.Intn(len(words))
	other := pick(r, "", "", "0", "1", "4", "01", "-1", "999999", "1000000", "a", "A", "q", "get", "now", "\xff", strings.Repeat("x", 190+r.Intn(20)))
	switch r.Intn(4) {
	case 0:
		words = slices.Insert(words, i, other)
	case 1:
		words = slices.Delete(words, i, i+1)
	case 2:
		words[i] = other
	default:
		words = append(words, other)
	}
	return strings.Join(words, " ")
}

// drawnLines of several sessions, of which each begins when it may.
func drawnLines(r *rand.Rand, bend int) []string {
	lines := []string{"begin 0", "queue 0 d 1", "queue 0 q 2 d", "send 0 q hay", "put 0 a x", "commit 0"}
	for len(lines) < api.MaxLines {
		s := strconv.Itoa(r.Intn(3))
		line := drawn(r, s)
		if r.Intn(4) == 0 {
			line = "begin " + s
		}
		if r.Intn(bend) == 0 {
			line = bent(r, line)
		}
		lines = append(lines, line)
	}
	return lines
}

func TestDrawnLines(t *testing.T) {
	for seed := range 400 {
		r := rand.New(rand.NewSource(int64(seed)))
		asTheClerk(t, drawnLines(r, 6))
		asTheClerk(t, drawnLines(r, 1))
	}
}

// TestDrawnTexts: whatever a line is, it is answered.
func TestDrawnTexts(t *testing.T) {
	pieces := []string{" ", " ", " ", "0", "1", "9", "-", "a", "q", "begin", "get", "put", "scan", "queue", "send", "receive", "commit", "rows", "arm 0", "restart", "\x00", "\xff", "\n", ";"}
	for seed := range 300 {
		r := rand.New(rand.NewSource(int64(seed)))
		lines := []string{"begin 0", "begin 1"}
		for len(lines) < api.MaxLines {
			line := ""
			for range r.Intn(9) {
				line += pieces[r.Intn(len(pieces))]
			}
			lines = append(lines, line)
		}
		asTheClerk(t, lines)
	}
}

func FuzzLines(f *testing.F) {
	f.Add(strings.ReplaceAll(exampleSession, " => ", "\n"))
	f.Add("arm 3\nbegin 0\nput 0 a x\ncommit 0\nrestart 5\nrows")
	f.Fuzz(func(t *testing.T, text string) {
		lines := strings.Split(text, "\n")
		if len(lines) > api.MaxLines {
			if answers, err := console.Run(lines); answers != nil || err != api.ErrMany {
				t.Fatalf("M1: Run of %d lines = %q, %v", len(lines), answers, err)
			}
			return
		}
		asTheClerk(t, lines)
	})
}
