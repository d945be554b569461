package engine_test

import (
	"maps"
	"math"
	"slices"
	"strconv"
	"testing"

	"haywain/api"
	"haywain/disk"
	"haywain/engine"
	"haywain/queue"
	"haywain/view"
)

// move of one among others: what it does, by its session.
type move struct {
	what, key, val string
	s              int
}

// script of moves that many make, the same each time.
func script(d *die) []move {
	l := []move{{what: "begin"}, {what: "create"}, {what: "put", key: "t/a", val: "0"}, {what: "commit"}}
	for i := range 40 {
		m := move{s: d.n(api.Sessions), key: []string{"t/a", "t/b", "t/c", "m/z/000001"}[d.n(4)], val: strconv.Itoa(i)}
		m.what = []string{"begin", "begin", "get", "put", "put", "delete", "send", "receive", "commit", "commit", "commit", "abort", "checkpoint"}[d.n(13)]
		l = append(l, m)
	}
	return l
}

// on a view, if the move is one that a view is needed for.
func (m move) on(w *view.View) {
	switch m.what {
	case "get":
		_, _, _ = w.Get(m.key)
	case "put":
		_ = w.Put(m.key, m.val)
	case "delete":
		_ = w.Delete(m.key)
	case "create":
		_ = queue.Create(w, "q", 2, "")
	case "send":
		_, _ = queue.Send(w, "q", m.val, 0)
	case "receive":
		_, _ = queue.Receive(w, "q", 1, 0)
	}
}

// ledger: the rows that were committed, and those that would be behind the move in which the disk fell.
type ledger struct {
	was, next []api.Row
}

func behind(l []api.Row, changes []api.Change) []api.Row {
	m := map[string]string{}
	for _, r := range l {
		m[r.Key] = r.Val
	}
	for _, c := range changes {
		delete(m, c.Key)
		if !c.Gone {
			m[c.Key] = c.Val
		}
	}
	var out []api.Row
	for _, key := range slices.Sorted(maps.Keys(m)) {
		out = append(out, api.Row{Key: key, Val: m[key]})
	}
	return out
}

// make a move: an error, if it could not be for good.
func (m move) make(e *engine.Engine, l *ledger) error {
	switch m.what {
	case "begin":
		_ = e.Begin(m.s)
		return nil
	case "abort":
		_ = e.Abort(m.s)
		return nil
	case "checkpoint":
		l.next = l.was
		return e.Checkpoint()
	}
	w, err := e.Deed(m.s)
	if err != nil {
		return nil
	}
	if m.what != "commit" {
		m.on(w)
		return nil
	}
	l.next = behind(l.was, w.Changes())
	_, err = e.Commit(m.s)
	if err == nil {
		l.was = l.next
	}
	return err
}

// fallen: moves on a new disk that falls at a step; what is to be there then.
func fallen(t *testing.T, moves []move, sectors, step int) (*disk.Disk, ledger) {
	t.Helper()
	d := formatted(t, sectors)
	e := makes(t, d)
	var l ledger
	d.Arm(step)
	for _, m := range moves {
		err := m.make(e, &l)
		if err == api.ErrDown {
			break
		}
		if err != nil && err != api.ErrConflict && err != api.ErrFull {
			t.Fatalf("L2, L3: %+v: %v", m, err)
		}
		if got := e.Rows(); !slices.Equal(got, l.was) {
			t.Fatalf("L1: behind %+v are %q, not %q", m, got, l.was)
		}
	}
	return d, l
}

// manyKeeps: of what a fall leaves all combinations of the first few writes, and some others.
func manyKeeps(d *die) []uint64 {
	l := []uint64{math.MaxUint64, d.bits(), d.bits()}
	for keep := range uint64(16) {
		l = append(l, keep)
	}
	return l
}

// TestFalls: behind a fall at each step an engine is made anew, and has what was committed,
// or that and the deed that was being committed, as a whole; of those that were begun, aborted or too late nothing.
func TestFalls(t *testing.T) {
	x := die(21)
	whole, not := 0, 0
	for i := range 30 {
		moves := script(&x)
		for step, down := 0, true; down; step++ {
			for _, keep := range manyKeeps(&x) {
				d, l := fallen(t, moves, 54+i%6, step)
				if down = d.Down(); !down {
					break
				}
				d.Restart(keep)
				e := makes(t, d)
				switch got := e.Rows(); {
				case slices.Equal(got, l.was):
					not++
				case slices.Equal(got, l.next):
					whole++
				default:
					t.Fatalf("W5, I4: behind a fall at the step %d, with %b kept, are %q, neither %q nor %q", step, keep, got, l.was, l.next)
				}
				goesOn(t, d, e)
			}
		}
	}
	if whole == 0 || not == 0 {
		t.Errorf("%d deeds were there, %d were not: nothing is tested so", whole, not)
	}
}

// goesOn: an engine that is made anew has no deeds, and what is committed then stays, with what was there.
func goesOn(t *testing.T, d *disk.Disk, e *engine.Engine) {
	t.Helper()
	has(t, e, 0, e.Rows())
	keeps(t, e, len(e.Rows()))
	for s := range api.Sessions {
		isOver(t, e, s)
	}
	l := e.Rows()
	for i := range 3 {
		changes := []api.Change{{Key: "t/a", Gone: true}, {Key: "t/more", Val: strconv.Itoa(i)}}
		w := begins(t, e, i)
		deletes(t, w, "t/a")
		puts(t, w, "t/more", strconv.Itoa(i))
		commits(t, e, i, i+1)
		l = behind(l, changes)
		d.Restart(0)
		if got := makes(t, d).Rows(); !slices.Equal(got, l) {
			t.Fatalf("W5: behind a fall, and a commit, are %q, not %q", got, l)
		}
	}
}

// TestFallAgainAndAgain: several falls, one behind the other, on the same disk.
func TestFallAgainAndAgain(t *testing.T) {
	x := die(22)
	for range 40 {
		d := formatted(t, 54+x.n(10))
		var l ledger
		for range 30 {
			e := makes(t, d)
			switch got := e.Rows(); {
			case slices.Equal(got, l.was):
			case slices.Equal(got, l.next):
				l.was = l.next
			default:
				t.Fatalf("W5, I4: %q are there, neither %q nor %q", got, l.was, l.next)
			}
			l.next = l.was
			d.Arm(x.n(60))
			for _, m := range script(&x) {
				if m.make(e, &l) == api.ErrDown {
					break
				}
				l.next = l.was // a deed that was refused was not
			}
			d.Restart(x.bits())
		}
	}
}

// TestWhatIsCommittedStays: all that is told as committed is there, if nothing is kept but what was flushed.
func TestWhatIsCommittedStays(t *testing.T) {
	x := die(23)
	for range 40 {
		d := formatted(t, 54+x.n(10))
		e := makes(t, d)
		var l ledger
		for _, m := range slices.Concat(script(&x), script(&x)) {
			_ = m.make(e, &l)
			d.Restart(0)
			if got := makes(t, d).Rows(); !slices.Equal(got, l.was) {
				t.Fatalf("W5: behind %+v are %q on the disk, not %q", m, got, l.was)
			}
		}
	}
}

// TestFallIsTold: the call in which the disk falls answers so.
func TestFallIsTold(t *testing.T) {
	d, e := start(t)
	sets(t, e, 0, "t/a", "1")
	puts(t, begins(t, e, 0), "t/a", "2")
	d.Arm(0)
	commitsNot(t, e, 0, api.ErrDown)
	if e, err := engine.New(d); e != nil || err != api.ErrDown {
		t.Errorf("L1: New of a disk that is down = %v, %v, not %v", e, err, api.ErrDown)
	}
	d.Restart(0)
	e = makes(t, d)
	has(t, e, 0, rows("t/a", "1"))
	d.Arm(0)
	if err := e.Checkpoint(); err != api.ErrDown {
		t.Errorf("L3: Checkpoint = %v, not %v", err, api.ErrDown)
	}
	d.Restart(math.MaxUint64)
	has(t, makes(t, d), 0, rows("t/a", "1"))
}

// TestLayingChangesNothing: all rows, as many and as great as may be, are laid at any time.
func TestLayingChangesNothing(t *testing.T) {
	x := die(24)
	for range 20 {
		c := newCrowd(t, 54+x.n(147))
		c.fill(t)
		for now := range 100 {
			was, kept := c.e.Rows(), c.e.Kept()
			if err := c.e.Checkpoint(); err != nil {
				t.Fatalf("L3: Checkpoint() = %v", err)
			}
			has(t, c.e, len(c.changed), was)
			keeps(t, c.e, kept)
			c.disk.Restart(0)
			has(t, makes(t, c.disk), 0, was)
			c.step(t, &x, now)
		}
		c.checkAlone(t)
	}
}
