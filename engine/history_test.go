package engine

import (
	"strconv"
	"testing"

	"haywain/disk"
	"haywain/store"
)

// TestNoMoreIsKnownThanIsAskedFor: of deeds up to the least Since of those that are begun nobody asks any more
// (rule 8: what is kept is no more than the promises need). No call tells it, so the test looks inside.
func TestNoMoreIsKnownThanIsAskedFor(t *testing.T) {
	d, err := disk.New(60)
	if err != nil {
		t.Fatal(err)
	}
	if err := store.Format(d); err != nil {
		t.Fatal(err)
	}
	e, err := New(d)
	if err != nil {
		t.Fatal(err)
	}
	knows := func(want int) {
		t.Helper()
		if n := e.history.Count(); n != want {
			t.Fatalf("%d deeds are known, not %d", n, want)
		}
	}
	change := func(s, times int) {
		t.Helper()
		for i := range times {
			if err := e.Begin(s); err != nil {
				t.Fatal(err)
			}
			w, err := e.Deed(s)
			if err != nil {
				t.Fatal(err)
			}
			_ = w.Put("t/a", strconv.Itoa(i))
			if _, err := e.Commit(s); err != nil {
				t.Fatal(err)
			}
		}
	}
	change(0, 5)
	knows(0) // nobody else is at it
	_ = e.Begin(1)
	change(0, 3)
	knows(3)
	_ = e.Begin(2)
	change(0, 4)
	knows(7)
	e.Vacuum()
	knows(7) // who is begun still asks
	_ = e.Abort(1)
	knows(4)
	_ = e.Begin(1)
	if _, err := e.Commit(2); err != nil { // it changed nothing
		t.Fatal(err)
	}
	knows(0)
	late, _ := e.Deed(1)
	_, _, _ = late.Get("t/a")
	_ = late.Put("t/b", "")
	change(3, 2)
	knows(2)
	if _, err := e.Commit(1); err == nil {
		t.Fatal("L2: it is too late")
	}
	knows(0)
}
