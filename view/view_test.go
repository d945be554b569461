package view_test

import (
	"maps"
	"math"
	"slices"
	"strconv"
	"strings"
	"testing"

	"haywain/api"
	"haywain/change"
	"haywain/row"
	"haywain/span"
	"haywain/versions"
	"haywain/view"
)

func set(key, val string) api.Change { return api.Change{Key: key, Val: val} }

func gone(key string) api.Change { return api.Change{Key: key, Gone: true} }

func rows(l ...string) []api.Row {
	var out []api.Row
	for i := 0; i < len(l); i += 2 {
		out = append(out, api.Row{Key: l[i], Val: l[i+1]})
	}
	return out
}

// start: a few rows, and a view of them.
func start() (*versions.Versions, *view.View) {
	v := versions.New(rows("m/q/000001", "0 0 x", "t/a", "hay", "t/c", ""))
	return v, view.New(v)
}

func commit(t *testing.T, v *versions.Versions, l ...api.Change) {
	t.Helper()
	if _, err := v.Commit(l); err != nil {
		t.Fatal(err)
	}
}

func gets(t *testing.T, w *view.View, key, want string, wanted bool) {
	t.Helper()
	if val, is, err := w.Get(key); val != want || is != wanted || err != nil {
		t.Errorf("F2: Get(%q) = %q, %v, %v, not %q, %v", key, val, is, err, want, wanted)
	}
}

func puts(t *testing.T, w *view.View, key, val string) {
	t.Helper()
	if err := w.Put(key, val); err != nil {
		t.Errorf("F3: Put(%q, %q) = %v", key, val, err)
	}
}

func deletes(t *testing.T, w *view.View, key string) {
	t.Helper()
	if err := w.Delete(key); err != nil {
		t.Errorf("F3: Delete(%q) = %v", key, err)
	}
}

func scans(t *testing.T, w *view.View, s api.Span, most int, want []api.Row) {
	t.Helper()
	if l, err := w.Scan(s, most); !slices.Equal(l, want) || err != nil {
		t.Errorf("F4: Scan(%q, %d) = %q, %v, not %q", s, most, l, err, want)
	}
}

func changed(t *testing.T, w *view.View, want ...api.Change) {
	t.Helper()
	if got := w.Changes(); !slices.Equal(got, want) {
		t.Errorf("F1, F3: the changes are %v, not %v", got, want)
	}
}

func wasRead(t *testing.T, w *view.View, want ...api.Span) {
	t.Helper()
	if got := w.Reads(); !slices.Equal(got, want) {
		t.Errorf("F1: the spans that were read are %q, not %q", got, want)
	}
}

func TestNewView(t *testing.T) {
	v, w := start()
	if n := w.Since(); n != 0 {
		t.Errorf("F1: Since is %d, not 0", n)
	}
	changed(t, w)
	wasRead(t, w)
	if m := w.Mark(); len(m) != 0 {
		t.Errorf("F5: at first %v is marked", m)
	}
	commit(t, v, set("t/a", "1"))
	commit(t, v, set("t/a", "2"))
	w = view.New(v)
	if n := w.Since(); n != 2 {
		t.Errorf("F1: Since is %d, not 2", n)
	}
	changed(t, w)
	wasRead(t, w)
	gets(t, w, "t/a", "2", true)
}

func TestViewOfNoRows(t *testing.T) {
	w := view.New(versions.New(nil))
	gets(t, w, "t/a", "", false)
	scans(t, w, span.All(), 1, nil)
	wasRead(t, w, span.Point("t/a"), span.All())
}

func TestWhatIsCommittedLaterIsNotSeen(t *testing.T) {
	v, w := start()
	commit(t, v, set("t/a", "new"), set("t/b", "new"), gone("t/c"))
	commit(t, v, gone("t/a"), gone("t/b"), set("t/d", "new"))
	if n := w.Since(); n != 0 {
		t.Errorf("F1: Since is %d, not 0", n)
	}
	gets(t, w, "t/a", "hay", true)
	gets(t, w, "t/b", "", false)
	gets(t, w, "t/c", "", true)
	gets(t, w, "t/d", "", false)
	scans(t, w, span.All(), 9, rows("m/q/000001", "0 0 x", "t/a", "hay", "t/c", ""))
	v.Vacuum(0)
	scans(t, w, span.All(), 9, rows("m/q/000001", "0 0 x", "t/a", "hay", "t/c", ""))
}

func TestViewsAreApart(t *testing.T) {
	v, w := start()
	other := view.New(v)
	puts(t, w, "t/a", "mine")
	deletes(t, w, "t/c")
	gets(t, w, "t/b", "", false)
	gets(t, other, "t/a", "hay", true)
	gets(t, other, "t/c", "", true)
	changed(t, other)
	wasRead(t, other, span.Point("t/a"), span.Point("t/c"))
	wasRead(t, w, span.Point("t/b"))
	if val, is := v.Read("t/a", v.Now()); val != "hay" || !is || v.Now() != 0 {
		t.Errorf("F3: what a view changes came to be: %q, %v", val, is)
	}
}

func TestGet(t *testing.T) {
	_, w := start()
	gets(t, w, "t/a", "hay", true)
	gets(t, w, "t/b", "", false)
	gets(t, w, "t/c", "", true)
	gets(t, w, "q/q", "", false)
	gets(t, w, "m/q/000001", "0 0 x", true)
	gets(t, w, "t/a", "hay", true)
	wasRead(t, w, span.Point("t/a"), span.Point("t/b"), span.Point("t/c"), span.Point("q/q"), span.Point("m/q/000001"))
	changed(t, w)
}

func TestGetOfWhatIsChanged(t *testing.T) {
	_, w := start()
	puts(t, w, "t/a", "oats")
	puts(t, w, "t/b", "")
	deletes(t, w, "t/c")
	deletes(t, w, "t/d")
	gets(t, w, "t/a", "oats", true)
	gets(t, w, "t/b", "", true)
	gets(t, w, "t/c", "", false)
	gets(t, w, "t/d", "", false)
	wasRead(t, w)
	deletes(t, w, "t/a")
	puts(t, w, "t/c", "straw")
	gets(t, w, "t/a", "", false)
	gets(t, w, "t/c", "straw", true)
	wasRead(t, w)
}

// wrongKeys: those of no row.
func wrongKeys() []string {
	return []string{"", "a", "t", "t/", "t/A", "t/1a", "t/abcdefg", "t/a ", "t/a\x00", "x/a", "q/", "m/q", "m/q/", "m/q/1", "m/q/0000000", "m//000000", "m/q/00000a", "\xff", strings.Repeat("t/a", 100000)}
}

func TestWrongKeys(t *testing.T) {
	_, w := start()
	puts(t, w, "t/b", "1")
	gets(t, w, "t/a", "hay", true)
	for _, key := range wrongKeys() {
		if val, is, err := w.Get(key); val != "" || is || err != api.ErrShape {
			t.Errorf("F2, Z1, Z3: Get(%.20q) = %q, %v, %v", key, val, is, err)
		}
		if err := w.Put(key, "x"); err != api.ErrShape {
			t.Errorf("F3, Z3: Put(%.20q, x) = %v", key, err)
		}
		if err := w.Put(key, strings.Repeat("z", 41)); err != api.ErrShape {
			t.Errorf("F3, Z3: Put(%.20q, 41 bytes) = %v", key, err)
		}
		if err := w.Delete(key); err != api.ErrShape {
			t.Errorf("F3, Z3: Delete(%.20q) = %v", key, err)
		}
	}
	changed(t, w, set("t/b", "1"))
	wasRead(t, w, span.Point("t/a"))
}

func TestPutAndDelete(t *testing.T) {
	_, w := start()
	puts(t, w, "t/b", "1")
	puts(t, w, "m/q/000000", "2")
	puts(t, w, "t/aa", "3")
	deletes(t, w, "q/q")
	deletes(t, w, "t/a")
	changed(t, w, set("m/q/000000", "2"), gone("q/q"), gone("t/a"), set("t/aa", "3"), set("t/b", "1"))
	puts(t, w, "q/q", "4")
	deletes(t, w, "t/aa")
	puts(t, w, "t/b", "")
	changed(t, w, set("m/q/000000", "2"), set("q/q", "4"), gone("t/a"), gone("t/aa"), set("t/b", ""))
	wasRead(t, w)
}

func TestPutOfWhatIsThereIsAChange(t *testing.T) {
	_, w := start()
	puts(t, w, "t/a", "hay")
	deletes(t, w, "t/x")
	changed(t, w, set("t/a", "hay"), gone("t/x"))
}

func TestLongValues(t *testing.T) {
	_, w := start()
	most := strings.Repeat("z", api.MaxVal)
	puts(t, w, "t/a", most)
	for _, n := range []int{1, 1000000} {
		if err := w.Put("t/a", most+strings.Repeat("z", n)); err != api.ErrBound {
			t.Errorf("F3: Put of %d bytes = %v", api.MaxVal+n, err)
		}
		if err := w.Put("t/b", most+strings.Repeat("z", n)); err != api.ErrBound {
			t.Errorf("F3: Put of %d bytes = %v", api.MaxVal+n, err)
		}
	}
	changed(t, w, set("t/a", most))
	gets(t, w, "t/a", most, true)
}

// fill a view with as many changes as may be.
func fill(t *testing.T, w *view.View) []api.Change {
	t.Helper()
	var l []api.Change
	for i := range api.MaxChanges {
		c := set(row.Table(string(rune('a'+i))), "full")
		puts(t, w, c.Key, c.Val)
		l = append(l, c)
	}
	return l
}

func TestManyChanges(t *testing.T) {
	_, w := start()
	full := fill(t, w)
	changed(t, w, full...)
	for _, key := range []string{"m/q/000000", "t/ab", "t/z"} {
		if err := w.Put(key, "x"); err != api.ErrMany {
			t.Errorf("F3: Put of one more key = %v", err)
		}
		if err := w.Delete(key); err != api.ErrMany {
			t.Errorf("F3: Delete of one more key = %v", err)
		}
		if err := w.Put(key, strings.Repeat("z", 41)); err != api.ErrBound {
			t.Errorf("F3, Z3: Put of one more key with too long a value = %v", err)
		}
		gets(t, w, key, "", false)
	}
	changed(t, w, full...)
	puts(t, w, "t/a", "other")
	deletes(t, w, "t/l")
	full[0], full[11] = set("t/a", "other"), gone("t/l")
	changed(t, w, full...)
	if err := w.Put("t/z", "x"); err != api.ErrMany {
		t.Errorf("F3: a row that is gone is no change any more: Put = %v", err)
	}
}

func TestReadsInOrder(t *testing.T) {
	_, w := start()
	gets(t, w, "t/c", "", true)
	scans(t, w, api.Span{From: "t/", To: "t0"}, 9, rows("t/a", "hay", "t/c", ""))
	gets(t, w, "t/a", "hay", true)
	gets(t, w, "t/c", "", true)
	scans(t, w, api.Span{From: "t/", To: "t0"}, 8, rows("t/a", "hay", "t/c", ""))
	scans(t, w, span.Point("t/c"), 1, rows("t/c", ""))
	scans(t, w, api.Span{From: "t/c", To: "t/a"}, 1, nil)
	wasRead(t, w, span.Point("t/c"), api.Span{From: "t/", To: "t0"}, span.Point("t/a"), api.Span{From: "t/c", To: "t/a"})
}

// readMost: as many spans are read as may be, all of them of rows that aren't there.
func readMost(t *testing.T, w *view.View) {
	t.Helper()
	for i := range api.MaxReads {
		gets(t, w, row.Table("x"+strconv.Itoa(i)), "", false)
	}
}

func TestManyReads(t *testing.T) {
	_, w := start()
	readMost(t, w)
	full := w.Reads()
	if len(full) != api.MaxReads {
		t.Fatalf("F1: %d spans were read", len(full))
	}
	if val, is, err := w.Get("t/a"); val != "" || is || err != api.ErrMany {
		t.Errorf("F1, F2, Z1: Get of one more = %q, %v, %v", val, is, err)
	}
	for _, most := range []int{1, 2, 9} {
		if l, err := w.Scan(api.Span{From: "t/", To: "t/b"}, most); len(l) != 0 || err != api.ErrMany {
			t.Errorf("F1, F4, Z1: Scan of one more = %q, %v", l, err)
		}
	}
	if l, err := w.Scan(span.All(), 0); len(l) != 0 || err != api.ErrBound {
		t.Errorf("F4, Z3: Scan of none, with as many reads as may be = %q, %v", l, err)
	}
	if _, _, err := w.Get("t/A"); err != api.ErrShape {
		t.Errorf("F2, Z3: Get of a wrong key, with as many reads as may be = %v", err)
	}
	wasRead(t, w, full...)
	gets(t, w, "t/x0", "", false)
	gets(t, w, "t/x39", "", false)
	scans(t, w, span.Point("t/x7"), 5, nil)
	wasRead(t, w, full...)
	puts(t, w, "t/a", "mine")
	gets(t, w, "t/a", "mine", true)
	wasRead(t, w, full...)
}

// TestScanReadsOneThatIsRead: that most are read does not matter to a scan that ends at the end of one of them.
func TestScanReadsOneThatIsRead(t *testing.T) {
	_, w := start()
	scans(t, w, span.All(), 1, rows("m/q/000001", "0 0 x"))
	for i := range api.MaxReads - 1 {
		gets(t, w, row.Table("x"+strconv.Itoa(i)), "", false)
	}
	scans(t, w, span.All(), 1, rows("m/q/000001", "0 0 x"))
	scans(t, w, api.Span{To: "m/q/000001\x00"}, 2, rows("m/q/000001", "0 0 x"))
	if l, err := w.Scan(span.All(), 2); len(l) != 0 || err != api.ErrMany {
		t.Errorf("F1, F4: Scan of one more = %q, %v", l, err)
	}
}

func TestScanBounds(t *testing.T) {
	_, w := start()
	for _, most := range []int{0, -1, math.MinInt} {
		for _, s := range []api.Span{{}, {From: "t/b", To: "t/a"}, {From: "\xff"}} {
			if l, err := w.Scan(s, most); len(l) != 0 || err != api.ErrBound {
				t.Errorf("F4, Z1: Scan(%q, %d) = %q, %v", s, most, l, err)
			}
		}
	}
	wasRead(t, w)
	scans(t, w, span.All(), math.MaxInt, rows("m/q/000001", "0 0 x", "t/a", "hay", "t/c", ""))
	wasRead(t, w, span.All())
}

func TestWhatAScanReads(t *testing.T) {
	all := rows("m/q/000001", "0 0 x", "t/a", "hay", "t/c", "")
	for _, c := range []struct {
		s    api.Span
		most int
		want []api.Row
		read api.Span
	}{
		{api.Span{}, 1, all[:1], api.Span{To: "m/q/000001\x00"}},
		{api.Span{}, 2, all[:2], api.Span{To: "t/a\x00"}},
		// As many as most, also if there are no more of them.
		{api.Span{}, 3, all, api.Span{To: "t/c\x00"}},
		{api.Span{}, 4, all, api.Span{}},
		{api.Span{From: "t/"}, 1, all[1:2], api.Span{From: "t/", To: "t/a\x00"}},
		{api.Span{From: "t/"}, 3, all[1:], api.Span{From: "t/"}},
		{api.Span{From: "t/a", To: "t/c"}, 1, all[1:2], api.Span{From: "t/a", To: "t/a\x00"}},
		{api.Span{From: "t/a", To: "t/c"}, 2, all[1:2], api.Span{From: "t/a", To: "t/c"}},
		{api.Span{From: "t/a\x00", To: "t/c\x00"}, 1, all[2:], api.Span{From: "t/a\x00", To: "t/c\x00"}},
		{span.Point("t/a"), 1, all[1:2], span.Point("t/a")},
		{span.Point("t/b"), 1, nil, span.Point("t/b")},
		{api.Span{From: "t/c", To: "t/a"}, 1, nil, api.Span{From: "t/c", To: "t/a"}},
		{api.Span{From: "t/a", To: "t/a"}, 1, nil, api.Span{From: "t/a", To: "t/a"}},
		{api.Span{From: "z"}, 1, nil, api.Span{From: "z"}},
		{api.Span{From: "\xff", To: "\xff\xff"}, 1, nil, api.Span{From: "\xff", To: "\xff\xff"}},
	} {
		_, w := start()
		scans(t, w, c.s, c.most, c.want)
		wasRead(t, w, c.read)
		changed(t, w)
	}
}

func TestScanWithChanges(t *testing.T) {
	_, w := start()
	puts(t, w, "t/c", "oats")
	puts(t, w, "t/b", "")
	deletes(t, w, "m/q/000001")
	deletes(t, w, "q/q")
	puts(t, w, "m/q/000000", "first")
	puts(t, w, "t/z", "last")
	all := rows("m/q/000000", "first", "t/a", "hay", "t/b", "", "t/c", "oats", "t/z", "last")
	for most := 1; most < 5; most++ {
		scans(t, w, span.All(), most, all[:most])
	}
	scans(t, w, span.All(), 6, all)
	scans(t, w, api.Span{From: "t/b", To: "t/c"}, 9, all[2:3])
	scans(t, w, api.Span{From: "m/q/000000\x00", To: "t/a"}, 9, nil)
	wasRead(t, w,
		api.Span{To: "m/q/000000\x00"}, api.Span{To: "t/a\x00"}, api.Span{To: "t/b\x00"}, api.Span{To: "t/c\x00"},
		span.All(), api.Span{From: "t/b", To: "t/c"}, api.Span{From: "m/q/000000\x00", To: "t/a"})
}

// TestScanSkipsWhatIsGone: rows behind those that are gone come in their place, and what is gone between was read.
func TestScanSkipsWhatIsGone(t *testing.T) {
	_, w := start()
	deletes(t, w, "t/a")
	scans(t, w, row.Messages("q"), 1, rows("m/q/000001", "0 0 x"))
	scans(t, w, api.Span{From: "t/"}, 1, rows("t/c", ""))
	deletes(t, w, "t/c")
	scans(t, w, api.Span{From: "t/"}, 1, nil)
	wasRead(t, w, api.Span{From: "m/q/", To: "m/q/000001\x00"}, api.Span{From: "t/", To: "t/c\x00"}, api.Span{From: "t/"})
}

func TestMarkAndBack(t *testing.T) {
	_, w := start()
	nothing := w.Mark()
	puts(t, w, "t/b", "1")
	deletes(t, w, "t/a")
	some := w.Mark()
	if !slices.Equal(some, []api.Change{gone("t/a"), set("t/b", "1")}) {
		t.Errorf("F5: %v is marked", some)
	}
	puts(t, w, "t/a", "2")
	puts(t, w, "t/d", "2")
	gets(t, w, "t/c", "", true)
	wasRead(t, w, span.Point("t/c"))

	w.Back(some)
	changed(t, w, gone("t/a"), set("t/b", "1"))
	gets(t, w, "t/a", "", false)
	scans(t, w, api.Span{From: "t/"}, 9, rows("t/b", "1", "t/c", ""))
	wasRead(t, w, span.Point("t/c"), api.Span{From: "t/"})

	w.Back(nothing)
	changed(t, w)
	gets(t, w, "t/a", "hay", true)
	gets(t, w, "t/b", "", false)
	wasRead(t, w, span.Point("t/c"), api.Span{From: "t/"}, span.Point("t/a"), span.Point("t/b"))

	// A mark is good for more than once, and one that is ahead too.
	w.Back(some)
	w.Back(some)
	changed(t, w, gone("t/a"), set("t/b", "1"))
	if n := w.Since(); n != 0 {
		t.Errorf("F5: Since is %d, not 0", n)
	}
}

func TestBackMakesRoom(t *testing.T) {
	_, w := start()
	nothing := w.Mark()
	fill(t, w)
	full := w.Mark()
	w.Back(nothing)
	puts(t, w, "t/z", "x")
	changed(t, w, set("t/z", "x"))
	w.Back(full)
	if err := w.Put("t/z", "x"); err != api.ErrMany {
		t.Errorf("F3, F5: Put behind a Back to as many changes as may be = %v", err)
	}
}

func TestBackReadsNothing(t *testing.T) {
	_, w := start()
	readMost(t, w)
	m := w.Mark()
	puts(t, w, "t/a", "1")
	w.Back(m)
	if _, _, err := w.Get("t/a"); err != api.ErrMany {
		t.Errorf("F5: what was read stays read: Get = %v", err)
	}
}

// TestBackOfOthers: nothing is said of what is no mark, but that calls end without a panic.
func TestBackOfOthers(t *testing.T) {
	for _, m := range [][]api.Change{{set("t/b", "1"), set("t/a", "2"), set("t/b", "3")}, {{}}, {gone("x"), {Key: "t/a", Val: "x", Gone: true}}, make([]api.Change, 50)} {
		_, w := start()
		w.Back(m)
		for _, key := range []string{"t/a", "t/b", "t/c", ""} {
			w.Get(key)
			w.Put(key, "x")
			w.Delete(key)
		}
		w.Scan(span.All(), 1)
		w.Scan(span.All(), 100)
		w.Back(w.Mark())
	}
}

func overwrite(l []api.Change) {
	l = l[:cap(l)]
	for i := range l {
		l[i] = set("t/over", "over")
	}
}

func TestChangesAreFreshMemory(t *testing.T) {
	_, w := start()
	puts(t, w, "t/a", "1")
	puts(t, w, "t/b", "2")
	mark := w.Mark()
	for _, l := range [][]api.Change{w.Changes(), w.Mark(), w.Changes()} {
		overwrite(l)
		changed(t, w, set("t/a", "1"), set("t/b", "2"))
	}
	puts(t, w, "t/a", "3")
	deletes(t, w, "t/b")
	puts(t, w, "t/aa", "4")
	if !slices.Equal(mark, []api.Change{set("t/a", "1"), set("t/b", "2")}) {
		t.Errorf("Z2: a mark was written into: %v", mark)
	}
}

func TestMarksAreNotKept(t *testing.T) {
	_, w := start()
	puts(t, w, "t/a", "1")
	puts(t, w, "t/b", "2")
	l := append(w.Mark(), set("t/z", "behind"))
	w.Back(l[:2])
	changed(t, w, set("t/a", "1"), set("t/b", "2"))
	puts(t, w, "t/a", "3")
	puts(t, w, "t/c", "4")
	deletes(t, w, "t/b")
	if !slices.Equal(l, []api.Change{set("t/a", "1"), set("t/b", "2"), set("t/z", "behind")}) {
		t.Errorf("Z2: a list that was handed in was written into: %v", l)
	}
	w.Back(l[:2])
	overwrite(l)
	changed(t, w, set("t/a", "1"), set("t/b", "2"))
}

func TestReadsAreFreshMemory(t *testing.T) {
	_, w := start()
	gets(t, w, "t/a", "hay", true)
	gets(t, w, "t/b", "", false)
	gets(t, w, "t/c", "", true)
	one, two := w.Reads(), w.Reads()
	one = one[:cap(one)]
	for i := range one {
		one[i] = span.Point("over")
	}
	want := []api.Span{span.Point("t/a"), span.Point("t/b"), span.Point("t/c")}
	if !slices.Equal(two, want) {
		t.Errorf("Z2: two lists share memory: %q", two)
	}
	wasRead(t, w, want...)
	gets(t, w, "t/d", "", false)
	wasRead(t, w, append(want, span.Point("t/d"))...)
	if !slices.Equal(two, want) {
		t.Errorf("Z2: a list that was told was written into: %q", two)
	}
}

func TestScansAreFreshMemory(t *testing.T) {
	_, w := start()
	puts(t, w, "t/b", "1")
	want := rows("m/q/000001", "0 0 x", "t/a", "hay", "t/b", "1")
	for _, most := range []int{3, 9} {
		one, err := w.Scan(span.All(), most)
		if err != nil {
			t.Fatal(err)
		}
		two, _ := w.Scan(span.All(), most)
		one = one[:cap(one)]
		for i := range one {
			one[i] = api.Row{Key: "t/over", Val: "over"}
		}
		if !slices.Equal(two[:3], want) {
			t.Errorf("Z2: two lists share memory: %q", two)
		}
		scans(t, w, span.All(), 3, want)
	}
	changed(t, w, set("t/b", "1"))
}

// TestNobodyMissesWhatIsVacuumed: what is older than a view is kept for nobody.
func TestNobodyMissesWhatIsVacuumed(t *testing.T) {
	v, _ := start()
	commit(t, v, set("t/a", "1"), gone("t/c"))
	w := view.New(v)
	commit(t, v, gone("t/a"), set("t/c", "2"))
	v.Vacuum(w.Since())
	gets(t, w, "t/a", "1", true)
	gets(t, w, "t/c", "", false)
	scans(t, w, api.Span{From: "t/"}, 9, rows("t/a", "1"))
	// Of what a later vacuum leaves nothing is said, but that calls end.
	v.Vacuum(v.Now())
	if _, _, err := w.Get("t/a"); err != nil {
		t.Errorf("Z1: Get = %v", err)
	}
	if _, err := w.Scan(span.All(), 1); err != nil {
		t.Errorf("Z1: Scan = %v", err)
	}
}

// die: numbers that look drawn, the same each time.
type die uint64

func (d *die) n(most int) int {
	*d = *d*6364136223846793005 + 1442695040888963407
	return int(uint64(*d>>33) % uint64(most))
}

// model of a view: all rows as it sees them, which of them it changed, and what it read.
type model struct {
	rows, base map[string]string
	changed    map[string]bool
	reads      []api.Span
}

func newModel(l []api.Row) *model {
	m := &model{rows: map[string]string{}, base: map[string]string{}, changed: map[string]bool{}}
	for _, r := range l {
		m.rows[r.Key], m.base[r.Key] = r.Val, r.Val
	}
	return m
}

func (m *model) read(s api.Span) error {
	for _, r := range m.reads {
		if r == s {
			return nil
		}
	}
	if len(m.reads) == 40 {
		return api.ErrMany
	}
	m.reads = append(m.reads, s)
	return nil
}

func (m *model) get(key string) (string, bool, error) {
	if !m.changed[key] {
		if err := m.read(api.Span{From: key, To: key + "\x00"}); err != nil {
			return "", false, err
		}
	}
	val, is := m.rows[key]
	return val, is, nil
}

func (m *model) alter(c api.Change) error {
	if !m.changed[c.Key] && len(m.changed) == 12 {
		return api.ErrMany
	}
	m.changed[c.Key] = true
	if c.Gone {
		delete(m.rows, c.Key)
	} else {
		m.rows[c.Key] = c.Val
	}
	return nil
}

func (m *model) scan(s api.Span, most int) ([]api.Row, error) {
	var l []api.Row
	for _, key := range slices.Sorted(maps.Keys(m.rows)) {
		if span.Has(s, key) && len(l) < most {
			l = append(l, api.Row{Key: key, Val: m.rows[key]})
			if end := key + "\x00"; len(l) == most && (s.To == "" || end < s.To) {
				s.To = end
			}
		}
	}
	if err := m.read(s); err != nil {
		return nil, err
	}
	return l, nil
}

func (m *model) changes() []api.Change {
	var l []api.Change
	for _, key := range slices.Sorted(maps.Keys(m.changed)) {
		val, is := m.rows[key]
		l = append(l, api.Change{Key: key, Val: val, Gone: !is})
	}
	return l
}

func (m *model) back(l []api.Change) {
	m.rows, m.changed = maps.Clone(m.base), map[string]bool{}
	for _, c := range l {
		m.alter(c)
	}
}

// TestAgainstAModel: whatever is done, and whatever is committed meanwhile, a view answers as one that has all rows for itself.
func TestAgainstAModel(t *testing.T) {
	keys := []string{"m/q/000000", "m/q/000001", "m/r/000000", "q/q", "q/r", "t/a", "t/a0", "t/aa", "t/b", "t/c", "t/d", "t/e", "t/f", "t/g", "t/z"}
	ends := []string{"", "m/q0", "t/a\x00", "t/b", "t/c\x00", "t0"}
	d := die(6)
	for range 300 {
		var first []api.Row
		for _, key := range keys {
			if d.n(2) == 0 {
				first = append(first, api.Row{Key: key, Val: "0"})
			}
		}
		v := versions.New(first)
		w, m := view.New(v), newModel(first)
		mark := w.Mark()
		for i := range 90 {
			key := keys[d.n(len(keys))]
			switch d.n(8) {
			case 0, 1:
				c := set(key, strconv.Itoa(i))
				if got, want := w.Put(c.Key, c.Val), m.alter(c); got != want {
					t.Fatalf("F3: Put(%q) = %v, not %v", key, got, want)
				}
			case 2:
				if got, want := w.Delete(key), m.alter(gone(key)); got != want {
					t.Fatalf("F3: Delete(%q) = %v, not %v", key, got, want)
				}
			case 3:
				commit(t, v, set(key, "new"))
			case 4:
				if d.n(3) == 0 {
					mark = w.Mark()
				} else if d.n(3) == 0 {
					w.Back(mark)
					m.back(mark)
				}
			case 5, 6:
				s, most := api.Span{From: key, To: ends[d.n(len(ends))]}, 1+d.n(5)
				got, err := w.Scan(s, most)
				if want, wanted := m.scan(s, most); !slices.Equal(got, want) || err != wanted {
					t.Fatalf("F4: Scan(%q, %d) = %q, %v, not %q, %v", s, most, got, err, want, wanted)
				}
			default:
				val, is, err := w.Get(key)
				if want, wanted, e := m.get(key); val != want || is != wanted || err != e {
					t.Fatalf("F2: Get(%q) = %q, %v, %v, not %q, %v, %v", key, val, is, err, want, wanted, e)
				}
			}
			changed(t, w, m.changes()...)
			wasRead(t, w, m.reads...)
			if w.Since() != 0 {
				t.Fatalf("F1: Since is %d", w.Since())
			}
		}
	}
}

// TestChangesMayBeCommitted: what a view has changed is a deed as it stands, and leaves the rows that it saw.
func TestChangesMayBeCommitted(t *testing.T) {
	v, w := start()
	fill(t, w)
	deletes(t, w, "t/a")
	saw, err := w.Scan(span.All(), 100)
	if err != nil {
		t.Fatal(err)
	}
	for _, c := range w.Changes() {
		if err := change.Check(c); err != nil {
			t.Errorf("F3: a change may not be: %v: %v", c, err)
		}
	}
	commit(t, v, w.Changes()...)
	if is := v.Scan(span.All(), v.Now()); !slices.Equal(is, saw) {
		t.Errorf("F4: it saw %q, and there are %q", saw, is)
	}
	if val, is, err := w.Get("t/a"); val != "" || is || err != nil {
		t.Errorf("F2: behind the commit Get = %q, %v, %v", val, is, err)
	}
}
