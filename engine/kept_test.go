package engine_test

import (
	"fmt"
	"slices"
	"strconv"
	"testing"

	"haywain/api"
	"haywain/engine"
	"haywain/span"
)

// TestVacuum: what somebody who is begun reads is kept, and no more.
func TestVacuum(t *testing.T) {
	_, e := start(t)
	sets(t, e, 0, "t/a", "1", "t/b", "1") // the deed 1
	one := begins(t, e, 1)
	sets(t, e, 0, "t/a", "2") // 2
	two := begins(t, e, 2)
	sets(t, e, 0, "t/a", "3", "t/c", "3") // 3
	deletes(t, begins(t, e, 0), "t/a", "t/c")
	commits(t, e, 0, 4)
	keeps(t, e, 7)
	e.Vacuum() // of the deed 1: all are read behind it, or later
	keeps(t, e, 7)
	scans(t, one, span.All(), 9, rows("t/a", "1", "t/b", "1"))
	aborts(t, e, 1)
	keeps(t, e, 7) // not ahead of Vacuum
	e.Vacuum()     // of the deed 2
	keeps(t, e, 6)
	scans(t, two, span.All(), 9, rows("t/a", "2", "t/b", "1"))
	three := begins(t, e, 1) // of what is now
	e.Vacuum()
	keeps(t, e, 6)
	commits(t, e, 2, 2)
	e.Vacuum() // of the deed 4: of t/a and t/c nothing is there
	keeps(t, e, 1)
	scans(t, three, span.All(), 9, rows("t/b", "1"))
	e.Vacuum()
	keeps(t, e, 1)
	has(t, e, 4, rows("t/b", "1"))
}

func TestVacuumWhileNobodyIsBegun(t *testing.T) {
	_, e := start(t)
	e.Vacuum()
	keeps(t, e, 0)
	for n := range 30 {
		sets(t, e, n%4, "t/a", strconv.Itoa(n), "t/b"+strconv.Itoa(n%3), "")
	}
	keeps(t, e, 60)
	e.Vacuum()
	keeps(t, e, 4)
	has(t, e, 30, rows("t/a", "29", "t/b0", "", "t/b1", "", "t/b2", ""))
	scans(t, begins(t, e, 0), span.All(), 9, e.Rows())
}

// TestVacuumBehindALateDeed: one that was too late holds nothing any more.
func TestVacuumBehindALateDeed(t *testing.T) {
	_, e := start(t)
	w := begins(t, e, 0)
	getsNone(t, w, "t/a")
	puts(t, w, "t/b", "")
	sets(t, e, 1, "t/a", "1")
	sets(t, e, 1, "t/a", "2")
	e.Vacuum()
	keeps(t, e, 2)
	commitsNot(t, e, 0, api.ErrConflict)
	e.Vacuum()
	keeps(t, e, 1)
}

// TestVacuumForgetsNoReader: that somebody was ahead is found behind a Vacuum too.
func TestVacuumForgetsNoReader(t *testing.T) {
	_, e := start(t)
	w := begins(t, e, 0)
	getsNone(t, w, "t/a")
	puts(t, w, "t/b", "")
	sets(t, e, 1, "t/a", "1")
	e.Vacuum()
	sets(t, e, 1, "t/c", "1")
	deletes(t, begins(t, e, 1), "t/a")
	commits(t, e, 1, 3)
	e.Vacuum()
	commitsNot(t, e, 0, api.ErrConflict)
}

// kept: all versions, in order, of each key: which deed made them, and whether it is gone then.
type kept map[string][]madeBy

type madeBy struct {
	deed int
	gone bool
}

func (k kept) add(n int, l []api.Change) {
	for _, c := range l {
		k[c.Key] = append(k[c.Key], madeBy{n, c.Gone})
	}
}

// vacuum as D3 says it.
func (k kept) vacuum(n int) {
	for key, l := range k {
		last := -1
		for i, x := range l {
			if x.deed <= n {
				last = i
			}
		}
		if last >= 0 && l[last].gone {
			last++
		}
		k[key] = slices.Clone(l[max(last, 0):])
	}
}

func (k kept) count() int {
	n := 0
	for _, l := range k {
		n += len(l)
	}
	return n
}

// pair of engines that are told the same, but that only the one is vacuumed.
type pair struct {
	vacuumed, other *engine.Engine
	since           map[int]int // of the sessions that are begun
	made            kept
}

// TestNobodyMissesWhatIsKeptNoMore: with vacuums all is answered as without, and just so much is kept as D3 says.
func TestNobodyMissesWhatIsKeptNoMore(t *testing.T) {
	d := die(31)
	for range 60 {
		_, one := start(t)
		_, two := start(t)
		p := &pair{one, two, map[int]int{}, kept{}}
		for range 150 {
			p.step(t, &d)
			if got, want := p.vacuumed.Kept(), p.made.count(); got != want {
				t.Fatalf("L3, D3: %d are kept, not %d", got, want)
			}
		}
		for s := range p.since {
			aborts(t, one, s)
		}
		one.Vacuum()
		if n := one.Kept(); n != len(one.Rows()) {
			t.Fatalf("W3: nobody reads, and %d are kept of %d rows", n, len(one.Rows()))
		}
	}
}

func (p *pair) step(t *testing.T, d *die) {
	t.Helper()
	s := d.n(4)
	if d.n(6) == 0 {
		n := p.vacuumed.Now()
		for _, since := range p.since {
			n = min(n, since)
		}
		p.vacuumed.Vacuum()
		p.made.vacuum(n)
		return
	}
	if _, begun := p.since[s]; !begun {
		begins(t, p.vacuumed, s)
		begins(t, p.other, s)
		p.since[s] = p.vacuumed.Now()
		return
	}
	w, _ := p.vacuumed.Deed(s)
	o, _ := p.other.Deed(s)
	if d.n(3) > 0 {
		do := draw(d, 0)
		if got, want := do(w), do(o); got != want {
			t.Fatalf("W3: behind a vacuum %s is told, not %s", got, want)
		}
		return
	}
	changes := w.Changes()
	n, err := p.vacuumed.Commit(s)
	if m, wrong := p.other.Commit(s); n != m || err != wrong {
		t.Fatalf("W3: behind a vacuum Commit = %d, %v, not %d, %v", n, err, m, wrong)
	}
	if err == api.ErrFull {
		return
	}
	if err == nil {
		p.made.add(n, changes)
	}
	delete(p.since, s)
	if got, want := fmt.Sprint(p.vacuumed.Rows()), fmt.Sprint(p.other.Rows()); got != want {
		t.Fatalf("W3: behind a vacuum are %s, not %s", got, want)
	}
}
