package versions_test

import (
	"math"
	"slices"
	"strings"
	"testing"

	"haywain/api"
	"haywain/change"
	"haywain/span"
	"haywain/versions"
)

func set(key, val string) api.Change { return api.Change{Key: key, Val: val} }

func gone(key string) api.Change { return api.Change{Key: key, Gone: true} }

func deed(l ...api.Change) []api.Change { return l }

func rows(l ...string) []api.Row {
	var out []api.Row
	for i := 0; i < len(l); i += 2 {
		out = append(out, api.Row{Key: l[i], Val: l[i+1]})
	}
	return out
}

// commit deeds that may be: their numbers follow each other.
func commit(t *testing.T, v *versions.Versions, deeds ...[]api.Change) {
	t.Helper()
	for _, l := range deeds {
		want := v.Now() + 1
		if n, err := v.Commit(l); n != want || err != nil || v.Now() != want {
			t.Fatalf("D1: Commit(%#v) = %d, %v, behind which Now is %d", l, n, err, v.Now())
		}
	}
}

// sees: all rows behind a deed are these, by Scan and one by one by Read.
func sees(t *testing.T, v *versions.Versions, n int, want []api.Row) {
	t.Helper()
	if got := v.Scan(span.All(), n); !slices.Equal(got, want) {
		t.Errorf("D2: behind %d are %q, not %q", n, got, want)
	}
	for _, r := range want {
		reads(t, v, r.Key, n, r.Val, true)
	}
}

func reads(t *testing.T, v *versions.Versions, key string, n int, want string, wanted bool) {
	t.Helper()
	if val, is := v.Read(key, n); val != want || is != wanted {
		t.Errorf("D2: Read(%q, %d) = %q, %v", key, n, val, is)
	}
}

func counts(t *testing.T, v *versions.Versions, want int) {
	t.Helper()
	if got := v.Count(); got != want {
		t.Errorf("D3: %d versions are kept, not %d", got, want)
	}
}

func TestBeginning(t *testing.T) {
	for _, l := range [][]api.Row{nil, {}, rows("t/a", "hay"), rows("m/q/000000", "0 0 x", "q/q", "1 1 ", "t/a", ""), rows("t/b", "2", "t/a", "1")} {
		v := versions.New(l)
		if n := v.Now(); n != 0 {
			t.Errorf("D1: at first Now is %d", n)
		}
		want := slices.Clone(l)
		slices.SortFunc(want, func(a, b api.Row) int { return strings.Compare(a.Key, b.Key) })
		sees(t, v, 0, want)
		sees(t, v, 1, want)
		sees(t, v, -1, nil)
		counts(t, v, len(l))
	}
}

func TestDeedsAreNumbered(t *testing.T) {
	v := versions.New(nil)
	commit(t, v, deed(set("t/a", "1")), nil, deed(), deed(gone("t/b")), deed(set("t/a", "1")))
	if n := v.Now(); n != 5 {
		t.Errorf("D1: behind five deeds Now is %d", n)
	}
	counts(t, v, 3)
}

func TestCommitWrong(t *testing.T) {
	long := strings.Repeat("z", 41)
	for _, c := range []struct {
		l    []api.Change
		want api.Errno
	}{
		{deed(set("t/A", "x")), api.ErrShape},
		{deed(api.Change{}), api.ErrShape},
		{deed(gone("")), api.ErrShape},
		{deed(set("t/a", long)), api.ErrBound},
		{deed(api.Change{Key: "t/a", Val: "x", Gone: true}), api.ErrShape},
		{deed(set("t/a", "1"), set("t/a", "2")), api.ErrShape},
		{deed(set("t/a", "1"), gone("t/a")), api.ErrShape},
		{deed(set("t/b", "1"), set("t/a", "2")), api.ErrShape},
		{deed(set("t/a", "1"), set("t/c", "2"), set("t/b", "3")), api.ErrShape},
		{deed(set("t/aa", "1"), set("t/a", "2")), api.ErrShape},
		{deed(set("t/b", "1"), set("x/c", "2")), api.ErrShape},
		{deed(set("t/b", "1"), set("t/c", long)), api.ErrBound},
		// Of one both errors: its Check's is named first.
		{deed(set("t/b", "1"), set("t/a", long)), api.ErrBound},
		// Of several the first one's.
		{deed(set("t/b", "1"), set("t/a", "2"), set("t/c", long)), api.ErrShape},
		{deed(set("t/b", long), set("t/a", "2")), api.ErrBound},
	} {
		v := versions.New(rows("t/a", "0"))
		commit(t, v, deed(set("t/b", "0")))
		if n, err := v.Commit(c.l); n != 0 || err != c.want {
			t.Errorf("D1, Z1, Z3: Commit(%#v) = %d, %v, not %v", c.l, n, err, c.want)
		}
		if n := v.Now(); n != 1 {
			t.Errorf("Z1: Commit(%#v) is refused, and Now is %d", c.l, n)
		}
		sees(t, v, 1, rows("t/a", "0", "t/b", "0"))
		sees(t, v, 2, rows("t/a", "0", "t/b", "0"))
		counts(t, v, 2)
		commit(t, v, deed(set("t/c", "0")))
		sees(t, v, 2, rows("t/a", "0", "t/b", "0", "t/c", "0"))
	}
}

func TestCommitTakesMany(t *testing.T) {
	var l []api.Change
	for c := 'a'; c <= 'z'; c++ {
		l = append(l, set("t/"+string(c), strings.Repeat("z", 40)))
	}
	v := versions.New(nil)
	commit(t, v, l)
	counts(t, v, 26)
}

// story of a row that is there, changed, gone and there again, beside others.
func story(t *testing.T) *versions.Versions {
	t.Helper()
	v := versions.New(rows("t/a", "0", "t/c", ""))
	commit(t, v,
		deed(set("t/a", "1"), set("t/b", "1")),
		deed(gone("t/a")),
		nil,
		deed(gone("t/a"), gone("t/d"), set("t/e", "4")),
		deed(set("t/a", ""), gone("t/c")),
	)
	return v
}

// numbers of deeds that are, and of some that are none.
func numbers() []int {
	return []int{math.MinInt, -2, -1, 0, 1, 2, 3, 4, 5, 6, 7, 1 << 40, math.MaxInt}
}

func storyBehind(n int) []api.Row {
	switch {
	case n < 0:
		return nil
	case n == 0:
		return rows("t/a", "0", "t/c", "")
	case n == 1:
		return rows("t/a", "1", "t/b", "1", "t/c", "")
	case n <= 3:
		return rows("t/b", "1", "t/c", "")
	case n == 4:
		return rows("t/b", "1", "t/c", "", "t/e", "4")
	}
	return rows("t/a", "", "t/b", "1", "t/e", "4")
}

func TestBehindEachDeed(t *testing.T) {
	v := story(t)
	for _, n := range numbers() {
		sees(t, v, n, storyBehind(n))
	}
	counts(t, v, 10)
	reads(t, v, "t/a", -1, "", false)
	reads(t, v, "t/a", 2, "", false)
	reads(t, v, "t/a", 4, "", false)
	reads(t, v, "t/d", 5, "", false)
	reads(t, v, "t/c", 5, "", false)
	reads(t, v, "t/e", 3, "", false)
}

func TestReadOfOtherKeys(t *testing.T) {
	v := story(t)
	for _, key := range []string{"", "t/", "t/A", "a", "t/a\x00", "t/f", "x/a", "m/q/1", strings.Repeat("t/a", 100000)} {
		for _, n := range []int{math.MinInt, -1, 0, 5, math.MaxInt} {
			reads(t, v, key, n, "", false)
		}
	}
}

func TestWhatWasStays(t *testing.T) {
	v := versions.New(rows("t/a", "0"))
	for n := range 20 {
		was := v.Scan(span.All(), n)
		commit(t, v, deed(set("t/a", strings.Repeat("x", n)), gone("t/b")), deed(gone("t/a"), set("t/b", "")))
		if is := v.Scan(span.All(), n); !slices.Equal(was, is) {
			t.Errorf("W3: behind %d were %q, and are %q", n, was, is)
		}
	}
	sees(t, v, 0, rows("t/a", "0"))
}

func TestScanOfSpans(t *testing.T) {
	v := versions.New(rows("t/c", "3", "m/q/000001", "m", "t/a", "1", "q/q", "q", "t/aa", "2"))
	all := rows("m/q/000001", "m", "q/q", "q", "t/a", "1", "t/aa", "2", "t/c", "3")
	for _, c := range []struct {
		s    api.Span
		want []api.Row
	}{
		{api.Span{}, all},
		{api.Span{From: "t/"}, all[2:]},
		{api.Span{From: "t/a", To: "t/c"}, all[2:4]},
		{api.Span{From: "t/a", To: "t/c\x00"}, all[2:]},
		{api.Span{From: "t/a\x00", To: "t/c"}, all[3:4]},
		{api.Span{To: "t/a"}, all[:2]},
		{span.Point("t/a"), all[2:3]},
		{span.Point("t/b"), nil},
		{api.Span{From: "t/c", To: "t/a"}, nil},
		{api.Span{From: "t/a", To: "t/a"}, nil},
		{api.Span{From: "z"}, nil},
		{api.Span{From: "\xff", To: "\xff\xff"}, nil},
	} {
		if got := v.Scan(c.s, 0); !slices.Equal(got, c.want) {
			t.Errorf("D2: Scan(%q, 0) = %q", c.s, got)
		}
		if got := v.Scan(c.s, -1); len(got) != 0 {
			t.Errorf("D2: Scan(%q, -1) = %q", c.s, got)
		}
	}
}

func TestVacuum(t *testing.T) {
	for n, want := range map[int]int{
		math.MinInt: 10, -1: 10, // of versions below the beginning there are none
		0: 10, 1: 9, // of t/a is kept what the deed 1 made
		2: 7, 3: 7, // t/a is gone: of its five versions the last two
		4: 5, // t/a, t/b, t/c (two), t/e; of t/d, which was never there, none
		5: 3, 6: 3, math.MaxInt: 3,
	} {
		v := story(t)
		v.Vacuum(n)
		counts(t, v, want)
		if v.Now() != 5 {
			t.Errorf("D3: behind Vacuum(%d) Now is %d", n, v.Now())
		}
		for _, m := range numbers() {
			if m >= n {
				sees(t, v, m, storyBehind(m))
			}
		}
		v.Vacuum(n)
		counts(t, v, want)
	}
}

func TestVacuumOfWhatIsGone(t *testing.T) {
	v := versions.New(rows("t/a", "0"))
	commit(t, v, deed(gone("t/a")), deed(gone("t/a"), gone("t/b")))
	counts(t, v, 4)
	v.Vacuum(1)
	counts(t, v, 2)
	v.Vacuum(2)
	counts(t, v, 0)
	sees(t, v, 2, nil)
	commit(t, v, deed(set("t/a", "3")))
	counts(t, v, 1)
	sees(t, v, 2, nil)
	sees(t, v, 3, rows("t/a", "3"))
	v.Vacuum(2)
	sees(t, v, 2, nil)
	counts(t, v, 1)
}

func TestVacuumBeyondTheLast(t *testing.T) {
	v := versions.New(rows("t/a", "0"))
	commit(t, v, deed(set("t/a", "1")))
	v.Vacuum(100)
	counts(t, v, 1)
	commit(t, v, deed(set("t/a", "2"), set("t/b", "2")))
	counts(t, v, 3)
	sees(t, v, 2, rows("t/a", "2", "t/b", "2"))
	v.Vacuum(1)
	counts(t, v, 3)
	v.Vacuum(2)
	counts(t, v, 2)
	sees(t, v, 2, rows("t/a", "2", "t/b", "2"))
}

func TestVacuumOfNothing(t *testing.T) {
	v := versions.New(nil)
	v.Vacuum(math.MinInt)
	v.Vacuum(math.MaxInt)
	counts(t, v, 0)
	sees(t, v, 0, nil)
}

func TestListsAreNotKept(t *testing.T) {
	l := rows("t/a", "0", "t/b", "0", "t/c", "behind")
	v := versions.New(l[:2])
	c := deed(set("t/a", "1"), gone("t/b"), set("t/c", "behind"))
	commit(t, v, c[:2])
	if !slices.Equal(l, rows("t/a", "0", "t/b", "0", "t/c", "behind")) || !slices.Equal(c, deed(set("t/a", "1"), gone("t/b"), set("t/c", "behind"))) {
		t.Errorf("Z2: a list was written into: %q, %#v", l, c)
	}
	for i := range l {
		l[i] = api.Row{Key: "t/over", Val: "over"}
		c[i] = set("t/over", "over")
	}
	sees(t, v, 0, rows("t/a", "0", "t/b", "0"))
	sees(t, v, 1, rows("t/a", "1"))
	counts(t, v, 4)
}

func TestScanIsFreshMemory(t *testing.T) {
	v := story(t)
	one, two := v.Scan(span.All(), 1), v.Scan(span.All(), 1)
	one = one[:cap(one)]
	for i := range one {
		one[i] = api.Row{Key: "over", Val: "over"}
	}
	if !slices.Equal(two, storyBehind(1)) {
		t.Errorf("Z2: two lists share memory: %q", two)
	}
	sees(t, v, 1, storyBehind(1))
}

func TestObjectsAreApart(t *testing.T) {
	l := rows("t/a", "0")
	v, w := versions.New(l), versions.New(l)
	commit(t, v, deed(set("t/a", "1")), deed(set("t/b", "2")))
	v.Vacuum(2)
	if w.Now() != 0 {
		t.Errorf("Z2: a deed of one is one of the other: Now is %d", w.Now())
	}
	sees(t, w, 5, l)
	counts(t, w, 1)
}

// die: numbers that look drawn, the same each time.
type die uint64

func (d *die) n(most int) int {
	*d = *d*6364136223846793005 + 1442695040888963407
	return int(uint64(*d>>33) % uint64(most))
}

// model: all rows behind each deed, and all that was ever made.
type model struct {
	behind []map[string]string
	made   map[string][]made
}

type made struct {
	deed int
	gone bool
}

func newModel(l []api.Row) *model {
	m := &model{behind: []map[string]string{{}}, made: map[string][]made{}}
	for _, r := range l {
		m.behind[0][r.Key] = r.Val
		m.made[r.Key] = []made{{}}
	}
	return m
}

func (m *model) commit(l []api.Change) {
	next := map[string]string{}
	for k, val := range m.behind[len(m.behind)-1] {
		next[k] = val
	}
	for _, c := range l {
		m.made[c.Key] = append(m.made[c.Key], made{len(m.behind), c.Gone})
		if c.Gone {
			delete(next, c.Key)
		} else {
			next[c.Key] = c.Val
		}
	}
	m.behind = append(m.behind, next)
}

func (m *model) vacuum(n int) {
	for key, l := range m.made {
		for len(l) > 1 && l[1].deed <= n {
			l = l[1:]
		}
		if len(l) > 0 && l[0].deed <= n && l[0].gone {
			l = l[1:]
		}
		m.made[key] = l
	}
}

func (m *model) count() int {
	n := 0
	for _, l := range m.made {
		n += len(l)
	}
	return n
}

func (m *model) scan(s api.Span, n int) []api.Row {
	var l []api.Row
	for key, val := range m.behind[min(n, len(m.behind)-1)] {
		if span.Has(s, key) {
			l = append(l, api.Row{Key: key, Val: val})
		}
	}
	slices.SortFunc(l, func(a, b api.Row) int { return strings.Compare(a.Key, b.Key) })
	return l
}

// TestNobodyMissesWhatIsKeptNoMore: whatever is done, all is read from the last Vacuum's deed on as by one who keeps all.
func TestNobodyMissesWhatIsKeptNoMore(t *testing.T) {
	keys := []string{"m/q/000000", "q/q", "t/a", "t/aa", "t/b", "t/c"}
	d := die(4)
	for range 150 {
		first := rows("t/b", "0", "q/q", "0 1 ", "t/a", "")[:d.n(4)]
		v, m, from := versions.New(first), newModel(first), 0
		for range 30 {
			var l []api.Change
			for range d.n(4) {
				c := set(keys[d.n(len(keys))], []string{"", "x", "y"}[d.n(3)])
				if d.n(3) == 0 {
					c = gone(c.Key)
				}
				l = change.Put(l, c)
			}
			commit(t, v, l)
			m.commit(l)
			if d.n(4) == 0 {
				n := d.n(v.Now() + 2)
				from = max(from, n)
				v.Vacuum(n)
				m.vacuum(n)
			}
			s := api.Span{From: keys[d.n(len(keys))], To: []string{"", "t/b", "t/c\x00"}[d.n(3)]}
			for n := from; n < v.Now()+2; n++ {
				if got, want := v.Scan(s, n), m.scan(s, n); !slices.Equal(got, want) {
					t.Fatalf("D2, W3: Scan(%q, %d) = %q, not %q", s, n, got, want)
				}
				sees(t, v, n, m.scan(span.All(), n))
			}
			if v.Count() != m.count() {
				t.Fatalf("D3, W3: %d versions are kept, not %d", v.Count(), m.count())
			}
		}
	}
}
