package engine_test

import (
	"cmp"
	"fmt"
	"maps"
	"slices"
	"strconv"
	"strings"
	"testing"

	"haywain/api"
	"haywain/disk"
	"haywain/engine"
	"haywain/queue"
	"haywain/view"
)

// die: numbers that look drawn, the same each time.
type die uint64

func (d *die) n(most int) int {
	*d = *d*6364136223846793005 + 1442695040888963407
	return int(uint64(*d>>33) % uint64(most))
}

func (d *die) bits() uint64 {
	return uint64(d.n(1<<30))<<34 ^ uint64(d.n(1<<30))<<17 ^ uint64(d.n(1<<30))
}

// act of a deed: what is told. It may be done again, by another one.
type act func(w *view.View) string

// draw an act at a time.
func draw(d *die, now int) act {
	if d.n(3) == 0 {
		return drawOfQueue(d, now)
	}
	key, val := drawKey(d), []string{"", "hay", "oats", strconv.Itoa(d.n(1000)), strings.Repeat("x", 40), strings.Repeat("x", 41)}[d.n(6)]
	s := drawSpan(d)
	most := d.n(5)
	switch d.n(12) {
	case 0, 1, 2:
		return func(w *view.View) string { return fmt.Sprint(w.Get(key)) }
	case 3, 4, 5, 6:
		return func(w *view.View) string { return fmt.Sprint(w.Put(key, val)) }
	case 7, 8:
		return func(w *view.View) string { return fmt.Sprint(w.Delete(key)) }
	case 9:
		return func(w *view.View) string {
			mark := w.Mark()
			told := fmt.Sprint(w.Put(key, "back"))
			told += fmt.Sprint(w.Scan(s, 2))
			w.Back(mark)
			return told
		}
	}
	return func(w *view.View) string { return fmt.Sprint(w.Scan(s, most)) }
}

// drawKey: one of a few, so that many meet there; or, now and then, one of so many that they have no room.
func drawKey(d *die) string {
	if d.n(4) == 0 {
		return "t/x" + strconv.Itoa(d.n(60))
	}
	return []string{"t/a", "t/b", "t/c", "t/d", "q/a", "m/a/000001", "t/A"}[d.n(7)]
}

func drawSpan(d *die) api.Span {
	return []api.Span{{}, {From: "t/", To: "t0"}, {From: "t/b", To: "t/d"}, {From: "t/b"}, {From: "t/c", To: "t/b"}, {From: "m/a/", To: "m/a0"}, {To: "t/b"}, {From: "t/x1", To: "t/x4"}}[d.n(8)]
}

func drawOfQueue(d *die, now int) act {
	name, body := []string{"a", "a", "b", "c"}[d.n(4)], []string{"hay", "oats", ""}[d.n(3)]
	n, tries, until := d.n(5), d.n(4), now+d.n(4)
	switch d.n(9) {
	case 0:
		return func(w *view.View) string {
			return fmt.Sprint(queue.Create(w, name, tries, []string{"", "b", "c"}[n%3]))
		}
	case 1, 2:
		return func(w *view.View) string { return fmt.Sprint(queue.Send(w, name, body, until)) }
	case 3, 4, 5:
		return func(w *view.View) string { return fmt.Sprint(queue.Receive(w, name, now, tries)) }
	case 6:
		return func(w *view.View) string { return fmt.Sprint(queue.Ack(w, name, n, tries)) }
	case 7:
		return func(w *view.View) string { return fmt.Sprint(queue.Wait(w, name, n, tries, until)) }
	}
	return func(w *view.View) string { return fmt.Sprint(queue.Messages(w, name)) }
}

// deed of one among others: what it did, and what it was told.
type deed struct {
	acts   []act
	told   []string
	number int // behind its commit
	looks  bool
	rows   []api.Row // behind it
}

// crowd: several, at once, over one disk, and one alone, over another one, who does the same deeds one by one.
type crowd struct {
	disk, aloneDisk *disk.Disk
	e, alone        *engine.Engine
	at              [api.Sessions]*deed // that are begun
	done            []*deed             // that were committed
	rows            map[string]string   // as changes, in the order of commits, make them
	changed         [][]string          // by the deed 1, 2 ..
	seen            map[string]int      // how often each was answered to Commit
}

func newCrowd(t *testing.T, sectors int) *crowd {
	t.Helper()
	c := &crowd{disk: formatted(t, sectors), aloneDisk: formatted(t, sectors), rows: map[string]string{}, seen: map[string]int{}}
	c.e, c.alone = makes(t, c.disk), makes(t, c.aloneDisk)
	return c
}

func (c *crowd) step(t *testing.T, d *die, now int) {
	t.Helper()
	s := d.n(api.Sessions)
	switch {
	case c.at[s] == nil:
		begins(t, c.e, s)
		c.at[s] = &deed{}
	case d.n(4) > 0:
		c.act(t, s, draw(d, now))
	case d.n(6) == 0:
		aborts(t, c.e, s)
		c.at[s] = nil
	default:
		c.commit(t, s)
	}
	if d.n(15) == 0 {
		c.e.Vacuum()
	}
	if d.n(40) == 0 {
		if err := c.e.Checkpoint(); err != nil {
			t.Fatalf("L3: Checkpoint() = %v", err)
		}
	}
	if got := c.e.Rows(); !slices.Equal(got, c.sorted()) {
		t.Fatalf("L1, L2, W2: Rows() = %q, not %q", got, c.sorted())
	}
}

func (c *crowd) act(t *testing.T, s int, do act) {
	t.Helper()
	w, err := c.e.Deed(s)
	if err != nil {
		t.Fatalf("L1: Deed(%d) = %v", s, err)
	}
	x := c.at[s]
	x.acts, x.told = append(x.acts, do), append(x.told, do(w))
}

func (c *crowd) sorted() []api.Row {
	var l []api.Row
	for _, key := range slices.Sorted(maps.Keys(c.rows)) {
		l = append(l, api.Row{Key: key, Val: c.rows[key]})
	}
	return l
}

// behind changes: the rows that would be there.
func (c *crowd) behind(l []api.Change) map[string]string {
	m := maps.Clone(c.rows)
	for _, x := range l {
		if x.Gone {
			delete(m, x.Key)
		} else {
			m[x.Key] = x.Val
		}
	}
	return m
}

// isLate: did a deed behind its Since change a key that one of its spans has? Word by word as L2 says it.
func (c *crowd) isLate(w *view.View) bool {
	for _, keys := range c.changed[w.Since():] {
		for _, key := range keys {
			for _, s := range w.Reads() {
				if key >= s.From && (s.To == "" || key < s.To) {
					return true
				}
			}
		}
	}
	return false
}

// wants: what a commit is to answer.
func (c *crowd) wants(w *view.View) (int, error) {
	l := w.Changes()
	switch {
	case len(l) == 0:
		return w.Since(), nil
	case c.isLate(w):
		return 0, api.ErrConflict
	case len(c.behind(l)) > 40 || len(l)+1 > c.disk.Sectors()-50:
		return 0, api.ErrFull
	}
	return len(c.changed) + 1, nil
}

func (c *crowd) commit(t *testing.T, s int) {
	t.Helper()
	w, err := c.e.Deed(s)
	if err != nil {
		t.Fatalf("L1: Deed(%d) = %v", s, err)
	}
	l := w.Changes()
	want, wrong := c.wants(w)
	n, err := c.e.Commit(s)
	if n != want || err != wrong {
		t.Fatalf("L2: Commit(%d) of %v, that has read %q since %d, = %d, %v, not %d, %v", s, l, w.Reads(), w.Since(), n, err, want, wrong)
	}
	c.seen[fmt.Sprint(err, len(l) == 0)]++
	if err == api.ErrFull {
		return // it stays begun
	}
	isOver(t, c.e, s)
	if err == nil {
		c.note(s, n, l)
	}
	c.at[s] = nil
}

// note a deed that came to be.
func (c *crowd) note(s, n int, l []api.Change) {
	x := c.at[s]
	x.number, x.looks = n, len(l) == 0
	if !x.looks {
		c.rows = c.behind(l)
		var keys []string
		for _, y := range l {
			keys = append(keys, y.Key)
		}
		c.changed = append(c.changed, keys)
	}
	x.rows = c.sorted()
	c.done = append(c.done, x)
}

// checkAlone: one alone, who does the deeds by their numbers (those that only look behind the one of their number),
// is told just what they were told, and leaves the same rows.
func (c *crowd) checkAlone(t *testing.T) {
	t.Helper()
	slices.SortStableFunc(c.done, func(a, b *deed) int {
		return cmp.Or(cmp.Compare(a.number, b.number), cmp.Compare(rank(a), rank(b)))
	})
	for _, x := range c.done {
		w := begins(t, c.alone, 0)
		for i, do := range x.acts {
			if told := do(w); told != x.told[i] {
				t.Fatalf("W1: the act %d of the deed %d was told %s, one alone %s", i, x.number, x.told[i], told)
			}
		}
		commits(t, c.alone, 0, x.number)
		if got := c.alone.Rows(); !x.looks && !slices.Equal(got, x.rows) {
			t.Fatalf("W1: behind the deed %d are %q, and one alone leaves %q", x.number, x.rows, got)
		}
	}
	if got := c.alone.Rows(); !slices.Equal(got, c.e.Rows()) {
		t.Fatalf("W1: in the end are %q, and one alone leaves %q", c.e.Rows(), got)
	}
}

// rank of a deed among those of its number.
func rank(x *deed) int {
	if x.looks {
		return 1
	}
	return 0
}

// fill: so many rows are there that a few more have no room.
func (c *crowd) fill(t *testing.T) {
	t.Helper()
	for i := 0; i < 36; i += 3 {
		c.at[0] = &deed{}
		begins(t, c.e, 0)
		for k := i; k < i+3; k++ {
			c.act(t, 0, func(w *view.View) string { return fmt.Sprint(w.Put("t/x"+strconv.Itoa(k), "")) })
		}
		c.commit(t, 0)
	}
}

// renew: both are made anew of their disks; deeds that are begun were not.
func (c *crowd) renew(t *testing.T) {
	t.Helper()
	c.checkAlone(t)
	c.e, c.alone = makes(t, c.disk), makes(t, c.aloneDisk)
	has(t, c.e, 0, c.sorted())
	c.at, c.done, c.changed = [api.Sessions]*deed{}, nil, nil
}

// TestAsIfOneByOne: whatever several do at once, there is an order in which one alone is told the same.
func TestAsIfOneByOne(t *testing.T) {
	d := die(11)
	seen := map[string]int{}
	for i := range 240 {
		c := newCrowd(t, []int{54, 57, 63, 100, 200}[i%5])
		if i%3 == 0 {
			c.fill(t)
		}
		for range 4 {
			for now := range 120 {
				c.step(t, &d, now/6)
			}
			c.renew(t)
		}
		for what, n := range c.seen {
			seen[what] += n
		}
	}
	for _, often := range []error{nil, api.ErrConflict, api.ErrFull} {
		if seen[fmt.Sprint(often, false)] < 100 {
			t.Errorf("%v was answered too seldom, nothing is tested so: %v", often, seen)
		}
	}
	if seen[fmt.Sprint(error(nil), true)] < 100 {
		t.Errorf("too few have changed nothing: %v", seen)
	}
}

// TestAloneIsNeverLate: who does deeds while no other one is committed.
func TestAloneIsNeverLate(t *testing.T) {
	d := die(12)
	c := newCrowd(t, 200)
	for range 3000 {
		c.at[1] = &deed{}
		begins(t, c.e, 1)
		for range d.n(12) {
			c.act(t, 1, draw(&d, 0))
		}
		c.commit(t, 1)
		if c.at[1] != nil { // it had no room
			aborts(t, c.e, 1)
		}
	}
	if n := c.seen[fmt.Sprint(api.ErrConflict, false)]; n > 0 {
		t.Errorf("W2: one alone was too late, %d times", n)
	}
	c.checkAlone(t)
}

// TestNoChangeIsLost: of those who read how often, and write once more, as many came to be as is told in the end.
func TestNoChangeIsLost(t *testing.T) {
	d := die(13)
	_, e := start(t)
	many, late, read := 0, 0, [api.Sessions]int{}
	sets(t, e, 0, "t/n", "0")
	for range 4000 {
		s := d.n(api.Sessions)
		if e.Begin(s) == nil {
			w, _ := e.Deed(s)
			val, _, err := w.Get("t/n")
			if err != nil {
				t.Fatal(err)
			}
			read[s], _ = strconv.Atoi(val)
			continue
		}
		w, _ := e.Deed(s)
		puts(t, w, "t/n", strconv.Itoa(read[s]+1))
		switch _, err := e.Commit(s); err {
		case nil:
			many++
		case api.ErrConflict:
			late++
		default:
			t.Fatalf("L2: %v", err)
		}
	}
	if got := e.Rows(); !slices.Equal(got, rows("t/n", strconv.Itoa(many))) || late == 0 || many == 0 {
		t.Errorf("W2: %q is told, %d came to be, %d were too late", got, many, late)
	}
}
