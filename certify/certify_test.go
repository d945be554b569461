package certify_test

import (
	"math"
	"slices"
	"strings"
	"testing"

	"haywain/api"
	"haywain/certify"
	"haywain/span"
)

// deed of changes of these keys.
func deed(keys ...string) []api.Change {
	var l []api.Change
	for _, key := range keys {
		l = append(l, api.Change{Key: key, Val: "x"})
	}
	return l
}

// story: a history of some deeds.
func story() *certify.History {
	h := &certify.History{}
	h.Note(1, deed("t/a", "t/b"))
	h.Note(2, nil)
	h.Note(3, []api.Change{{Key: "t/c", Gone: true}})
	h.Note(5, deed("m/q/000000", "q/q"))
	return h
}

func isClear(t *testing.T, h *certify.History, reads []api.Span, since int, want bool) {
	t.Helper()
	if got := h.Clear(reads, since); got != want {
		t.Errorf("E1: Clear(%q, %d) = %v", reads, since, got)
	}
}

func counts(t *testing.T, h *certify.History, want int) {
	t.Helper()
	if got := h.Count(); got != want {
		t.Errorf("E1: %d deeds are known, not %d", got, want)
	}
}

func TestZeroValueKnowsNone(t *testing.T) {
	var h certify.History
	counts(t, &h, 0)
	for _, since := range []int{math.MinInt, -1, 0, 1, math.MaxInt} {
		isClear(t, &h, nil, since, true)
		isClear(t, &h, []api.Span{span.All()}, since, true)
		h.Forget(since)
	}
	counts(t, &h, 0)
}

func TestClear(t *testing.T) {
	h := story()
	counts(t, h, 4)
	for _, c := range []struct {
		reads []api.Span
		last  int // the last deed that changed what is read, 0: none did
	}{
		{nil, 0},
		{[]api.Span{}, 0},
		{[]api.Span{span.All()}, 5},
		{[]api.Span{span.Point("t/a")}, 1},
		{[]api.Span{span.Point("t/b")}, 1},
		{[]api.Span{span.Point("t/c")}, 3},
		{[]api.Span{span.Point("q/q")}, 5},
		{[]api.Span{span.Point("t/aa")}, 0},
		{[]api.Span{span.Point("t/d")}, 0},
		{[]api.Span{{From: "t/a", To: "t/c"}}, 1},
		{[]api.Span{{From: "t/a", To: "t/c\x00"}}, 3},
		{[]api.Span{{From: "t/b"}}, 3},
		{[]api.Span{{From: "t/c\x00"}}, 0},
		{[]api.Span{{From: "m/q/", To: "m/q0"}}, 5},
		{[]api.Span{{From: "m/d/", To: "m/d0"}}, 0},
		{[]api.Span{{To: "m/q/000000"}}, 0},
		{[]api.Span{{From: "t/c", To: "t/a"}}, 0},
		{[]api.Span{{From: "t/c", To: "t/c"}}, 0},
		{[]api.Span{span.Point("t/d"), span.Point("t/a")}, 1},
		{[]api.Span{span.Point("t/a"), span.Point("t/d")}, 1},
		{[]api.Span{span.Point("t/a"), span.Point("t/c"), span.Point("t/a")}, 3},
		{[]api.Span{span.Point("t/d"), span.Point("t/e")}, 0},
		{[]api.Span{span.Point("")}, 0},
		{[]api.Span{{From: "\xff"}}, 0},
	} {
		for _, since := range []int{math.MinInt, -1, 0, 1, 2, 3, 4, 5, 6, math.MaxInt} {
			isClear(t, h, c.reads, since, c.last == 0 || since >= c.last)
		}
	}
	counts(t, h, 4)
}

func TestForget(t *testing.T) {
	for _, c := range []struct{ n, left int }{
		{math.MinInt, 4}, {-1, 4}, {0, 4}, {1, 3}, {2, 2}, {3, 1}, {4, 1}, {5, 0}, {6, 0}, {math.MaxInt, 0},
	} {
		h := story()
		h.Forget(c.n)
		counts(t, h, c.left)
		isClear(t, h, []api.Span{span.Point("t/b")}, 0, c.n >= 1)
		isClear(t, h, []api.Span{span.Point("t/c")}, 0, c.n >= 3)
		isClear(t, h, []api.Span{span.Point("t/c")}, 2, c.n >= 3)
		isClear(t, h, []api.Span{span.Point("q/q")}, 0, c.n >= 5)
		h.Forget(c.n)
		counts(t, h, c.left)
		h.Note(7, deed("t/z"))
		counts(t, h, c.left+1)
		isClear(t, h, []api.Span{span.Point("t/z")}, 6, false)
		isClear(t, h, []api.Span{span.Point("t/z")}, 7, true)
		isClear(t, h, []api.Span{span.Point("t/b")}, 0, c.n >= 1)
	}
}

func TestNumbersAtTheEnds(t *testing.T) {
	h := &certify.History{}
	h.Note(math.MaxInt, deed("t/b"))
	h.Note(math.MinInt, deed("t/a"))
	h.Note(-1, deed("t/c"))
	counts(t, h, 3)
	isClear(t, h, []api.Span{span.All()}, math.MaxInt, true)
	isClear(t, h, []api.Span{span.All()}, math.MaxInt-1, false)
	isClear(t, h, []api.Span{span.Point("t/a")}, math.MinInt, true) // none is above itself
	isClear(t, h, []api.Span{span.Point("t/c")}, math.MinInt, false)
	isClear(t, h, []api.Span{span.Point("t/c")}, -1, true)
	h.Forget(math.MinInt)
	counts(t, h, 2)
	h.Forget(math.MaxInt - 1)
	counts(t, h, 1)
	h.Forget(math.MaxInt)
	counts(t, h, 0)
	isClear(t, h, []api.Span{span.All()}, math.MinInt, true)
}

// TestKeysOfAnyKind: a history doesn't ask whether a row may be called so.
func TestKeysOfAnyKind(t *testing.T) {
	for _, key := range []string{"", "t/A", "\x00", "\xff\xff", strings.Repeat("t/a", 1000)} {
		h := &certify.History{}
		h.Note(1, deed(key))
		counts(t, h, 1)
		isClear(t, h, []api.Span{span.Point(key)}, 0, false)
		isClear(t, h, []api.Span{span.Point(key + "\x00")}, 0, true)
		isClear(t, h, []api.Span{span.Point(key)}, 1, true)
	}
}

// TestOneNumberTwice: it is one deed, and of what it changed nothing is lost.
func TestOneNumberTwice(t *testing.T) {
	h := &certify.History{}
	h.Note(3, deed("t/a"))
	h.Note(3, deed("t/b", "t/a"))
	h.Note(3, nil)
	counts(t, h, 1)
	isClear(t, h, []api.Span{span.Point("t/a")}, 2, false)
	isClear(t, h, []api.Span{span.Point("t/b")}, 2, false)
	isClear(t, h, []api.Span{span.All()}, 3, true)
	h.Forget(3)
	counts(t, h, 0)
	isClear(t, h, []api.Span{span.All()}, 2, true)
}

func TestListsAreNotKept(t *testing.T) {
	whole := deed("t/a", "t/b", "t/behind")
	h := &certify.History{}
	h.Note(1, whole[:2])
	h.Note(2, whole[1:2])
	reads := []api.Span{span.Point("t/x"), span.Point("t/y"), span.Point("t/a")}
	isClear(t, h, reads[:2], 0, true) // what stands behind a list isn't read
	if !slices.Equal(whole, deed("t/a", "t/b", "t/behind")) || !slices.Equal(reads, []api.Span{span.Point("t/x"), span.Point("t/y"), span.Point("t/a")}) {
		t.Errorf("Z2: a list was written into: %#v, %q", whole, reads)
	}
	for i := range whole {
		whole[i].Key = "t/over"
	}
	isClear(t, h, []api.Span{span.Point("t/over")}, 0, true)
	isClear(t, h, []api.Span{span.Point("t/behind")}, 0, true)
	isClear(t, h, []api.Span{span.Point("t/a")}, 0, false)
	isClear(t, h, []api.Span{span.Point("t/b")}, 1, false)
}

func TestObjectsAreApart(t *testing.T) {
	g, h := story(), story()
	g.Forget(5)
	g.Note(6, deed("t/z"))
	counts(t, h, 4)
	isClear(t, h, []api.Span{span.Point("t/z")}, 0, true)
	isClear(t, h, []api.Span{span.Point("t/a")}, 0, false)
}

// die: numbers that look drawn, the same each time.
type die uint64

func (d *die) n(most int) int {
	*d = *d*6364136223846793005 + 1442695040888963407
	return int(uint64(*d>>33) % uint64(most))
}

// TestAsByAPlainMap: in any order of numbers all is as by a map of deeds that is gone through whole.
func TestAsByAPlainMap(t *testing.T) {
	keys := []string{"m/q/000000", "q/q", "t/a", "t/aa", "t/b", "t/c"}
	d := die(5)
	for range 200 {
		h, known := &certify.History{}, map[int][]string{}
		for range 40 {
			switch d.n(4) {
			case 0, 1:
				n, l := d.n(30), []string{}
				for range d.n(3) {
					l = append(l, keys[d.n(len(keys))])
				}
				h.Note(n, deed(l...))
				known[n] = append(known[n], l...)
			case 2:
				n := d.n(20) - 2
				h.Forget(n)
				for k := range known {
					if k <= n {
						delete(known, k)
					}
				}
			}
			from, to := keys[d.n(len(keys))], keys[d.n(len(keys))]
			reads := []api.Span{{From: from, To: to}, span.Point(to)}[:d.n(3)]
			since := d.n(34) - 2
			want := true
			for n, l := range known {
				want = want && (n <= since || !slices.ContainsFunc(l, func(key string) bool { return span.Any(reads, key) }))
			}
			isClear(t, h, reads, since, want)
			counts(t, h, len(known))
		}
	}
}
