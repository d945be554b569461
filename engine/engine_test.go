package engine_test

import (
	"math"
	"slices"
	"strconv"
	"strings"
	"testing"

	"haywain/api"
	"haywain/disk"
	"haywain/engine"
	"haywain/span"
	"haywain/store"
	"haywain/view"
)

func rows(l ...string) []api.Row {
	var out []api.Row
	for i := 0; i < len(l); i += 2 {
		out = append(out, api.Row{Key: l[i], Val: l[i+1]})
	}
	return out
}

// formatted disk of so many sectors.
func formatted(t *testing.T, n int) *disk.Disk {
	t.Helper()
	d, err := disk.New(n)
	if err != nil {
		t.Fatal(err)
	}
	if err := store.Format(d); err != nil {
		t.Fatal(err)
	}
	return d
}

func makes(t *testing.T, d *disk.Disk) *engine.Engine {
	t.Helper()
	e, err := engine.New(d)
	if e == nil || err != nil {
		t.Fatalf("L1: New = %v, %v", e, err)
	}
	return e
}

// start: an engine over a new disk.
func start(t *testing.T) (*disk.Disk, *engine.Engine) {
	t.Helper()
	d := formatted(t, api.Sectors)
	return d, makes(t, d)
}

func begins(t *testing.T, e *engine.Engine, s int) *view.View {
	t.Helper()
	if err := e.Begin(s); err != nil {
		t.Fatalf("L1: Begin(%d) = %v", s, err)
	}
	w, err := e.Deed(s)
	if w == nil || err != nil {
		t.Fatalf("L1: Deed(%d) = %v, %v", s, w, err)
	}
	return w
}

// commits: it is told this number.
func commits(t *testing.T, e *engine.Engine, s, want int) {
	t.Helper()
	if n, err := e.Commit(s); n != want || err != nil {
		t.Fatalf("L2: Commit(%d) = %d, %v, not %d", s, n, err, want)
	}
	isOver(t, e, s)
}

// commitsNot: it is told this error.
func commitsNot(t *testing.T, e *engine.Engine, s int, want api.Errno) {
	t.Helper()
	if n, err := e.Commit(s); n != 0 || err != want {
		t.Fatalf("L2, Z1: Commit(%d) = %d, %v, not %v", s, n, err, want)
	}
}

func isOver(t *testing.T, e *engine.Engine, s int) {
	t.Helper()
	if w, err := e.Deed(s); w != nil || err != api.ErrState {
		t.Fatalf("L1, L2: Deed(%d) = %v, %v, and it is over", s, w, err)
	}
}

func aborts(t *testing.T, e *engine.Engine, s int) {
	t.Helper()
	if err := e.Abort(s); err != nil {
		t.Fatalf("L2: Abort(%d) = %v", s, err)
	}
	isOver(t, e, s)
}

func puts(t *testing.T, w *view.View, l ...string) {
	t.Helper()
	for i := 0; i < len(l); i += 2 {
		if err := w.Put(l[i], l[i+1]); err != nil {
			t.Fatal(err)
		}
	}
}

func deletes(t *testing.T, w *view.View, keys ...string) {
	t.Helper()
	for _, key := range keys {
		if err := w.Delete(key); err != nil {
			t.Fatal(err)
		}
	}
}

func gets(t *testing.T, w *view.View, key, want string) {
	t.Helper()
	if val, is, err := w.Get(key); val != want || !is || err != nil {
		t.Fatalf("F1, F2: Get(%q) = %q, %v, %v, not %q", key, val, is, err, want)
	}
}

func getsNone(t *testing.T, w *view.View, key string) {
	t.Helper()
	if val, is, err := w.Get(key); val != "" || is || err != nil {
		t.Fatalf("F1, F2: Get(%q) = %q, %v, %v, and there is none", key, val, is, err)
	}
}

func scans(t *testing.T, w *view.View, s api.Span, most int, want []api.Row) {
	t.Helper()
	if l, err := w.Scan(s, most); !slices.Equal(l, want) || err != nil {
		t.Fatalf("F1, F4: Scan(%q, %d) = %q, %v, not %q", s, most, l, err, want)
	}
}

// has: the number of the last deed, and the rows that are there.
func has(t *testing.T, e *engine.Engine, now int, want []api.Row) {
	t.Helper()
	if n := e.Now(); n != now {
		t.Fatalf("L1: Now() = %d, not %d", n, now)
	}
	if l := e.Rows(); !slices.Equal(l, want) {
		t.Fatalf("L1: Rows() = %q, not %q", l, want)
	}
}

func keeps(t *testing.T, e *engine.Engine, want int) {
	t.Helper()
	if n := e.Kept(); n != want {
		t.Fatalf("L3: Kept() = %d, not %d", n, want)
	}
}

// sets rows by a deed of its own.
func sets(t *testing.T, e *engine.Engine, s int, l ...string) {
	t.Helper()
	puts(t, begins(t, e, s), l...)
	commits(t, e, s, e.Now()+1)
}

// numbered rows, from the i-th on, so many: keys and values.
func numbered(i, n int) []string {
	var l []string
	for k := i; k < i+n; k++ {
		l = append(l, "t/x"+strconv.Itoa(100+k), strconv.Itoa(k))
	}
	return l
}

func TestNew(t *testing.T) {
	d := formatted(t, 60)
	s, err := store.Open(d)
	if err != nil {
		t.Fatal(err)
	}
	if err := s.Commit([]api.Change{{Key: "t/a", Val: "hay"}, {Key: "t/b", Val: ""}, {Key: "q/x", Val: "?"}}); err != nil {
		t.Fatal(err)
	}
	e := makes(t, d)
	has(t, e, 0, rows("q/x", "?", "t/a", "hay", "t/b", ""))
	keeps(t, e, 3)
	w := begins(t, e, 0)
	if n := w.Since(); n != 0 {
		t.Errorf("L1: Since is %d at the beginning", n)
	}
	scans(t, w, span.All(), 9, rows("q/x", "?", "t/a", "hay", "t/b", ""))
	commits(t, e, 0, 0)
	e.Vacuum()
	keeps(t, e, 3)
}

func TestNewOfNoRows(t *testing.T) {
	for _, n := range []int{54, 55, 200} {
		e := makes(t, formatted(t, n))
		has(t, e, 0, nil)
		keeps(t, e, 0)
		scans(t, begins(t, e, 3), span.All(), 1, nil)
	}
}

func TestNewWithoutAStore(t *testing.T) {
	for _, n := range []int{1, 53, 54, 200} {
		d, err := disk.New(n)
		if err != nil {
			t.Fatal(err)
		}
		if e, err := engine.New(d); e != nil || err != api.ErrText {
			t.Errorf("L1, Z1: New of %d sectors of noughts = %v, %v, not %v", n, e, err, api.ErrText)
		}
		d.Arm(0)
		_ = d.Flush()
		if e, err := engine.New(d); e != nil || err != api.ErrDown {
			t.Errorf("L1, Z1: New of a disk that is down = %v, %v, not %v", e, err, api.ErrDown)
		}
	}
}

// says: every call that has a session answers this error, and nothing beside it.
func says(t *testing.T, e *engine.Engine, s int, begin, others error) {
	t.Helper()
	if w, err := e.Deed(s); w != nil || err != others {
		t.Errorf("L1, Z1: Deed(%d) = %v, %v, not %v", s, w, err, others)
	}
	if n, err := e.Commit(s); n != 0 || err != others {
		t.Errorf("L2, Z1: Commit(%d) = %d, %v, not %v", s, n, err, others)
	}
	if err := e.Abort(s); err != others {
		t.Errorf("L2: Abort(%d) = %v, not %v", s, err, others)
	}
	if err := e.Begin(s); err != begin {
		t.Errorf("L1: Begin(%d) = %v, not %v", s, err, begin)
	}
}

func TestSessions(t *testing.T) {
	_, e := start(t)
	sets(t, e, 0, "t/a", "hay")
	wrong := []int{-1, -2, 4, 5, 8, 255, 256, math.MinInt32, math.MaxInt32, math.MinInt, math.MaxInt, 1 << 32, -1 << 32}
	for _, s := range wrong {
		says(t, e, s, api.ErrBound, api.ErrBound)
	}
	for s := range 4 {
		says(t, e, s, nil, api.ErrState)
	}
	for _, s := range wrong { // also while all are begun
		says(t, e, s, api.ErrBound, api.ErrBound)
	}
	for s := range 4 {
		aborts(t, e, s)
	}
	has(t, e, 1, rows("t/a", "hay"))
}

func TestBeginTwice(t *testing.T) {
	_, e := start(t)
	w := begins(t, e, 2)
	puts(t, w, "t/a", "1")
	getsNone(t, w, "t/b")
	sets(t, e, 1, "t/c", "1")
	if err := e.Begin(2); err != api.ErrState {
		t.Fatalf("L1: Begin of a session whose deed is begun = %v, not %v", err, api.ErrState)
	}
	// What answers an error changes nothing: it is the same deed, as it was.
	if again, err := e.Deed(2); again != w || err != nil {
		t.Fatalf("L1: Deed = %v, %v, another one than it was", again, err)
	}
	gets(t, w, "t/a", "1")
	if w.Since() != 0 || len(w.Reads()) != 1 {
		t.Errorf("Z1: Since is %d, and %q is read", w.Since(), w.Reads())
	}
	commits(t, e, 2, 2)
}

func TestADeedBeginsWithoutChanges(t *testing.T) {
	_, e := start(t)
	old := begins(t, e, 0)
	puts(t, old, "t/a", "1")
	getsNone(t, old, "t/b")
	commits(t, e, 0, 1)
	w := begins(t, e, 0)
	if w == old || w.Since() != 1 || len(w.Changes()) != 0 || len(w.Reads()) != 0 {
		t.Fatalf("L1: a new deed is since %d, with %v, and has read %q", w.Since(), w.Changes(), w.Reads())
	}
	// A deed that is over is no part of the engine any more.
	puts(t, old, "t/c", "1")
	getsNone(t, old, "t/d")
	commits(t, e, 0, 1)
	has(t, e, 1, rows("t/a", "1"))
}

// TestWhatADeedSees: all as it was when it began, with its own changes, whatever others do.
func TestWhatADeedSees(t *testing.T) {
	_, e := start(t)
	sets(t, e, 0, "t/a", "1", "t/b", "1")
	one, two := begins(t, e, 0), begins(t, e, 1)
	puts(t, one, "t/a", "2")
	deletes(t, one, "t/b")
	puts(t, one, "t/c", "2")
	gets(t, one, "t/a", "2")
	gets(t, two, "t/a", "1") // not yet
	commits(t, e, 0, 2)
	gets(t, two, "t/b", "1") // nor then
	getsNone(t, two, "t/c")
	scans(t, two, span.All(), 9, rows("t/a", "1", "t/b", "1"))
	if n := two.Since(); n != 1 {
		t.Errorf("F1: Since is %d, not 1", n)
	}
	scans(t, begins(t, e, 2), span.All(), 9, rows("t/a", "2", "t/c", "2"))
	e.Vacuum()
	if err := e.Checkpoint(); err != nil {
		t.Fatal(err)
	}
	scans(t, two, span.All(), 9, rows("t/a", "1", "t/b", "1"))
	commits(t, e, 1, 1)
}

// hasRoom: so many sectors of the log are free.
func hasRoom(t *testing.T, d *disk.Disk, want int) {
	t.Helper()
	s, err := store.Open(d)
	if err != nil {
		t.Fatal(err)
	}
	if n := s.Room(); n != want {
		t.Fatalf("L2, L3, I2, I3: %d sectors of the log are free, not %d", n, want)
	}
}

func TestCommit(t *testing.T) {
	d, e := start(t)
	w := begins(t, e, 3)
	puts(t, w, "t/b", "x", "m/q/000007", "y", "t/a", "")
	has(t, e, 0, nil)
	hasRoom(t, d, 150)
	commits(t, e, 3, 1)
	has(t, e, 1, rows("m/q/000007", "y", "t/a", "", "t/b", "x"))
	hasRoom(t, d, 146)
	w = begins(t, e, 0)
	deletes(t, w, "t/b", "t/none")
	gets(t, w, "t/a", "")
	commits(t, e, 0, 2)
	has(t, e, 2, rows("m/q/000007", "y", "t/a", ""))
	for n := range 300 { // more than the log has room for
		sets(t, e, n%4, "t/a", strconv.Itoa(n))
		has(t, e, 3+n, rows("m/q/000007", "y", "t/a", strconv.Itoa(n)))
	}
}

// TestAsManyChangesAsMayBe of a deed, on the least log that has room for them.
func TestAsManyChangesAsMayBe(t *testing.T) {
	d := formatted(t, 63)
	e := makes(t, d)
	for i := range 3 {
		sets(t, e, 0, numbered(12*i, 12)...)
	}
	if l := makes(t, d).Rows(); len(l) != 36 || !slices.Equal(l, e.Rows()) {
		t.Errorf("L2, I2: %q are on the disk", l)
	}
}

// TestChangesNothing: such a deed is never too late, and has the number of the last one that it sees.
func TestChangesNothing(t *testing.T) {
	_, e := start(t)
	sets(t, e, 0, "t/a", "1")
	w := begins(t, e, 1)
	gets(t, w, "t/a", "1")
	scans(t, w, span.All(), 9, rows("t/a", "1"))
	marked := begins(t, e, 2)
	gets(t, marked, "t/a", "1")
	mark := marked.Mark()
	puts(t, marked, "t/a", "3", "t/b", "3")
	marked.Back(mark)
	sets(t, e, 0, "t/a", "2")
	sets(t, e, 0, "t/b", "2")
	commits(t, e, 1, 1)
	commits(t, e, 2, 1) // also one that changed, and went back
	has(t, e, 3, rows("t/a", "2", "t/b", "2"))
	begins(t, e, 1)
	commits(t, e, 1, 3)
	has(t, e, 3, rows("t/a", "2", "t/b", "2"))
}

// TestSameValue: a row that is set to what it is, or deleted where there is none, is changed.
func TestSameValue(t *testing.T) {
	_, e := start(t)
	sets(t, e, 0, "t/a", "1")
	one, two := begins(t, e, 1), begins(t, e, 2)
	gets(t, one, "t/a", "1")
	puts(t, one, "t/x", "1")
	getsNone(t, two, "t/b")
	puts(t, two, "t/y", "1")
	w := begins(t, e, 0)
	puts(t, w, "t/a", "1")
	deletes(t, w, "t/b")
	commits(t, e, 0, 2)
	commitsNot(t, e, 1, api.ErrConflict)
	commitsNot(t, e, 2, api.ErrConflict)
	has(t, e, 2, rows("t/a", "1"))
}

// reading: what one reads, what others change meanwhile, and whether the one is too late.
type reading struct {
	what    string
	read    func(w *view.View)
	changes [][]api.Change // deed by deed
	late    bool
}

func readings() []reading {
	get := func(key string) func(*view.View) { return func(w *view.View) { _, _, _ = w.Get(key) } }
	scan := func(from, to string, most int) func(*view.View) {
		return func(w *view.View) { _, _ = w.Scan(api.Span{From: from, To: to}, most) }
	}
	set := func(keys ...string) (l []api.Change) {
		for _, k := range keys {
			l = append(l, api.Change{Key: k, Val: "new"})
		}
		return l
	}
	gone := []api.Change{{Key: "t/c", Gone: true}}
	deeds := func(l ...[]api.Change) [][]api.Change { return l }
	return []reading{
		{"nothing", func(*view.View) {}, deeds(set("t/a", "t/c", "t/e"), gone), false},
		{"a row, and others change another one", get("t/a"), deeds(set("t/b", "t/c")), false},
		{"a row", get("t/c"), deeds(set("t/c")), true},
		{"a row that is deleted", get("t/c"), deeds(gone), true},
		{"a row that isn't there", get("t/b"), deeds(set("t/b")), true},
		{"a row that another one begins with", get("t/a"), deeds(set("t/a0", "t/aa")), false},
		{"a row, among several", get("t/c"), deeds(set("t/a", "t/c", "t/e")), true},
		{"a row, by the first deed", get("t/c"), deeds(set("t/c"), set("t/a"), set("t/b")), true},
		{"a row, by the last deed", get("t/c"), deeds(set("t/a"), set("t/b"), set("t/c")), true},
		{"a row, by one between", get("t/c"), deeds(set("t/a"), set("t/c"), set("t/b")), true},
		{"a row that comes, and goes", get("t/c"), deeds(set("t/c"), gone), true},
		{"a span, a row of it", scan("t/b", "t/d", 9), deeds(set("t/c")), true},
		{"a span, a new row", scan("t/b", "t/d", 9), deeds(set("t/ca")), true},
		{"a span, a row that goes", scan("t/b", "t/d", 9), deeds(gone), true},
		{"a span, its beginning", scan("t/b", "t/d", 9), deeds(set("t/b")), true},
		{"a span, its end", scan("t/b", "t/d", 9), deeds(set("t/d")), false},
		{"a span, ahead of it", scan("t/b", "t/d", 9), deeds(set("t/az")), false},
		{"a span without rows", scan("t/x", "t/z", 1), deeds(set("t/y")), true},
		{"a span without an end", scan("t/b", "", 9), deeds(set("t/zzzzzz")), true},
		{"all", scan("", "", 9), deeds(set("m/q/000000")), true},
		{"an empty span", scan("t/d", "t/b", 9), deeds(set("t/a", "t/b", "t/c", "t/d")), false},
		{"the first of a span, another one behind", scan("t/b", "", 1), deeds(set("t/d", "t/e")), false},
		{"the first of a span, it", scan("t/b", "", 1), deeds(set("t/c")), true},
		{"the first of a span, one ahead", scan("t/b", "", 1), deeds(set("t/b")), true},
		{"just so many as there are, behind", scan("t/b", "t/d", 1), deeds(set("t/ca")), false},
		{"fewer than asked for, behind", scan("t/b", "t/d", 2), deeds(set("t/ca")), true},
		{"what it has put", func(w *view.View) { _ = w.Put("t/c", "mine"); _, _, _ = w.Get("t/c") }, deeds(set("t/c")), false},
		{"what it puts then", func(w *view.View) { _, _, _ = w.Get("t/c"); _ = w.Put("t/c", "mine") }, deeds(set("t/c")), true},
		{"what is read stays read", func(w *view.View) { m := w.Mark(); _, _, _ = w.Get("t/c"); w.Back(m) }, deeds(set("t/c")), true},
		{"a key that may not be", get("t/C"), deeds(set("t/c")), false},
	}
}

// TestConflicts: who has read what somebody changed behind its Since is too late, and nobody else is.
func TestConflicts(t *testing.T) {
	for _, r := range readings() {
		d, e := start(t)
		sets(t, e, 0, "t/a", "1", "t/c", "1", "t/e", "1")
		sets(t, e, 0, "t/c", "2") // up to Since: it is in nobody's way
		w := begins(t, e, 1)
		r.read(w)
		puts(t, w, "t/mine", "1")
		for i, l := range r.changes {
			other := begins(t, e, 2+i%2)
			for _, c := range l {
				if c.Gone {
					deletes(t, other, c.Key)
				} else {
					puts(t, other, c.Key, c.Val)
				}
			}
			commits(t, e, 2+i%2, 3+i)
		}
		checkLate(t, d, e, r)
	}
}

// checkLate: the deed of the session 1 comes to be, unless it is too late: then it was not, and another one is begun.
func checkLate(t *testing.T, d *disk.Disk, e *engine.Engine, r reading) {
	t.Helper()
	now, was := e.Now(), e.Rows()
	n, err := e.Commit(1)
	isOver(t, e, 1)
	if !r.late {
		if n != now+1 || err != nil || e.Now() != now+1 {
			t.Errorf("L2, W2: read %s: Commit = %d, %v, and it isn't too late", r.what, n, err)
		}
		return
	}
	if n != 0 || err != api.ErrConflict {
		t.Errorf("L2: read %s: Commit = %d, %v, not %v", r.what, n, err, api.ErrConflict)
	}
	has(t, e, now, was)
	if l := makes(t, d).Rows(); !slices.Equal(l, was) {
		t.Errorf("L2, W2: what is too late was not, but on the disk are %q", l)
	}
	r.read(begins(t, e, 1)) // now it is the only one
	w, _ := e.Deed(1)
	puts(t, w, "t/mine", "1")
	commits(t, e, 1, now+1)
}

// TestWhoWasNotIsInNobodysWay: who is aborted, too late, or still at it, or changes nothing.
func TestWhoWasNotIsInNobodysWay(t *testing.T) {
	_, e := start(t)
	w := begins(t, e, 0)
	getsNone(t, w, "t/a")
	puts(t, w, "t/b", "mine")
	puts(t, begins(t, e, 1), "t/a", "aborted")
	aborts(t, e, 1)
	late := begins(t, e, 1)
	getsNone(t, late, "t/c")
	puts(t, late, "t/a", "late")
	sets(t, e, 2, "t/c", "1")
	commitsNot(t, e, 1, api.ErrConflict)
	getsNone(t, begins(t, e, 2), "t/a")
	commits(t, e, 2, 1)
	puts(t, begins(t, e, 3), "t/a", "begun")
	commits(t, e, 0, 2)
	has(t, e, 2, rows("t/b", "mine", "t/c", "1"))
	commits(t, e, 3, 3)
}

// TestBothReadBothWrite: each reads what the other one changes; one of them was.
func TestBothReadBothWrite(t *testing.T) {
	for first := range 2 {
		_, e := start(t)
		sets(t, e, 0, "t/a", "1", "t/b", "1")
		for s, keys := range [][2]string{{"t/a", "t/b"}, {"t/b", "t/a"}} {
			w := begins(t, e, s)
			gets(t, w, keys[0], "1")
			puts(t, w, keys[1], strconv.Itoa(s))
		}
		commits(t, e, first, 2)
		commitsNot(t, e, 1-first, api.ErrConflict)
		isOver(t, e, 1-first)
	}
}

// TestLastOneStays: who reads nothing is never too late; the last one's change stays.
func TestLastOneStays(t *testing.T) {
	_, e := start(t)
	for s := range 4 {
		puts(t, begins(t, e, s), "t/a", strconv.Itoa(s), "t/b"+strconv.Itoa(s), "")
	}
	for i, s := range []int{2, 0, 3, 1} {
		commits(t, e, s, i+1)
	}
	has(t, e, 4, rows("t/a", "1", "t/b0", "", "t/b1", "", "t/b2", "", "t/b3", ""))
}

// fill: as many rows as may be.
func fill(t *testing.T, e *engine.Engine) {
	t.Helper()
	for i := 0; i < 40; i += 10 {
		sets(t, e, 0, numbered(i, 10)...)
	}
}

// TestFull: a deed that has no room stays begun, and goes on.
func TestFull(t *testing.T) {
	d, e := start(t)
	fill(t, e)
	was := e.Rows()
	w := begins(t, e, 1)
	puts(t, w, "t/more", "1")
	gets(t, w, "t/x100", "0")
	for range 3 {
		commitsNot(t, e, 1, api.ErrFull)
		if again, err := e.Deed(1); again != w || err != nil {
			t.Fatalf("L2: Deed = %v, %v, and it stays begun", again, err)
		}
		has(t, e, 4, was)
		keeps(t, e, 40)
		gets(t, w, "t/more", "1")
	}
	if l := makes(t, d).Rows(); !slices.Equal(l, was) {
		t.Fatalf("Z1: on the disk are %q", l)
	}
	deletes(t, w, "t/x139")
	commits(t, e, 1, 5)
	has(t, e, 5, append(rows("t/more", "1"), was[:39]...))
	puts(t, begins(t, e, 2), "t/more2", "1")
	commitsNot(t, e, 2, api.ErrFull)
	aborts(t, e, 2)
	has(t, e, 5, append(rows("t/more", "1"), was[:39]...))
}

// TestFullAndLate: that somebody was ahead is told first, also where there was no room ahead of it.
func TestFullAndLate(t *testing.T) {
	_, e := start(t)
	fill(t, e)
	w := begins(t, e, 1)
	gets(t, w, "t/x100", "0")
	puts(t, w, "t/more", "1")
	commitsNot(t, e, 1, api.ErrFull)
	sets(t, e, 2, "t/x100", "new")
	sets(t, e, 3, "t/x101", "new")
	commitsNot(t, e, 1, api.ErrConflict)
	isOver(t, e, 1)
	commitsNot(t, e, 1, api.ErrState)
}

// TestFullTillAnotherOneMakesRoom: a deed that had none comes to be once there is some.
func TestFullTillAnotherOneMakesRoom(t *testing.T) {
	_, e := start(t)
	fill(t, e)
	puts(t, begins(t, e, 1), "t/more", "1")
	commitsNot(t, e, 1, api.ErrFull)
	deletes(t, begins(t, e, 2), "t/x100")
	commits(t, e, 2, 5)
	commits(t, e, 1, 6)
	if n := len(e.Rows()); n != 40 {
		t.Errorf("L2: %d rows are there", n)
	}
}

// TestSmallLog: a deed that no log of this disk has room for stays begun.
func TestSmallLog(t *testing.T) {
	d := formatted(t, 54)
	e := makes(t, d)
	w := begins(t, e, 0)
	puts(t, w, "t/a", "1", "t/b", "1", "t/c", "1")
	mark := w.Mark()
	puts(t, w, "t/d", "1")
	commitsNot(t, e, 0, api.ErrFull)
	has(t, e, 0, nil)
	w.Back(mark)
	commits(t, e, 0, 1)
	for n := range 20 {
		sets(t, e, n%4, "t/a", strconv.Itoa(n), "t/b", "2")
	}
	has(t, e, 21, rows("t/a", "19", "t/b", "2", "t/c", "1"))
	has(t, makes(t, d), 0, e.Rows())
}

func TestAbort(t *testing.T) {
	d, e := start(t)
	sets(t, e, 0, "t/a", "1")
	w := begins(t, e, 0)
	puts(t, w, "t/a", "2", "t/b", "2")
	aborts(t, e, 0)
	has(t, e, 1, rows("t/a", "1"))
	keeps(t, e, 1)
	has(t, makes(t, d), 0, rows("t/a", "1"))
	scans(t, begins(t, e, 0), span.All(), 9, rows("t/a", "1"))
	commits(t, e, 0, 1)
}

func TestCheckpoint(t *testing.T) {
	d, e := start(t)
	sets(t, e, 0, "t/a", "1", "t/b", "1")
	sets(t, e, 0, "t/a", "2")
	w := begins(t, e, 1)
	gets(t, w, "t/a", "2")
	puts(t, w, "t/c", "1")
	sets(t, e, 0, "t/a", "3")
	for range 3 {
		if err := e.Checkpoint(); err != nil {
			t.Fatalf("L3: Checkpoint() = %v", err)
		}
		has(t, e, 3, rows("t/a", "3", "t/b", "1"))
		keeps(t, e, 4)
		has(t, makes(t, d), 0, e.Rows())
	}
	hasRoom(t, d, 150)
	commitsNot(t, e, 1, api.ErrConflict)
	sets(t, e, 1, "t/c", "4")
	has(t, e, 4, rows("t/a", "3", "t/b", "1", "t/c", "4"))
}

// TestRowsAreTheCallers: what is written into them is seen by nobody.
func TestRowsAreTheCallers(t *testing.T) {
	_, e := start(t)
	sets(t, e, 0, "t/a", "1", "t/b", "2")
	l := e.Rows()
	l[0], l[1] = api.Row{}, api.Row{Key: "t/z", Val: "z"}
	has(t, e, 1, rows("t/a", "1", "t/b", "2"))
	scans(t, begins(t, e, 0), span.All(), 9, rows("t/a", "1", "t/b", "2"))
	w, _ := e.Deed(0)
	puts(t, w, "t/c", "3")
	w.Changes()[0] = api.Change{Key: "t/z"}
	w.Reads()[0] = api.Span{From: "x"}
	sets(t, e, 1, "t/a", "9")
	commitsNot(t, e, 0, api.ErrConflict)
}

func TestEnginesAreApart(t *testing.T) {
	_, e := start(t)
	_, other := start(t)
	w := begins(t, e, 0)
	getsNone(t, w, "t/a")
	puts(t, w, "t/b", "1")
	sets(t, other, 0, "t/a", "1")
	sets(t, other, 0, "t/a", "2")
	isOver(t, other, 0)
	commits(t, e, 0, 1)
	has(t, e, 1, rows("t/b", "1"))
	has(t, other, 2, rows("t/a", "2"))
	keeps(t, other, 2)
}

// TestWrongInputs of a view are refused by it: a deed that had some comes to be without them.
func TestWrongInputs(t *testing.T) {
	_, e := start(t)
	w := begins(t, e, 0)
	for _, key := range []string{"", "t/", "t/A", "x/a", "t/toolong", "m/q/1", "q", strings.Repeat("t", 1000)} {
		if w.Put(key, "") == nil || w.Delete(key) == nil {
			t.Errorf("F3: %q is put, or deleted", key)
		}
	}
	if w.Put("t/a", strings.Repeat("x", 41)) != api.ErrBound {
		t.Error("F3: too great a value is put")
	}
	commits(t, e, 0, 0)
	puts(t, begins(t, e, 0), "t/a", strings.Repeat("\xff", 40))
	commits(t, e, 0, 1)
	has(t, e, 1, rows("t/a", strings.Repeat("\xff", 40)))
}
