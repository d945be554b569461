package change_test

import (
	"slices"
	"strings"
	"testing"

	"haywain/api"
	"haywain/change"
)

func set(key, val string) api.Change { return api.Change{Key: key, Val: val} }

func gone(key string) api.Change { return api.Change{Key: key, Gone: true} }

// good changes: ordinary ones, and the edges.
func good() []api.Change {
	return []api.Change{
		set("t/a", "hay"), set("t/a", ""), set("t/abcdef", strings.Repeat("x", 40)), set("q/work", "2 2 dead"), set("m/work/000001", "0 0 second"),
		set("m/abcdef/999999", strings.Repeat("\xff", 40)), set("t/a", "\x00\x01\x02"), set("t/a", "t/a"), gone("t/a"), gone("q/q"), gone("m/abcdef/000000"),
	}
}

// bad changes, and what is wrong with each.
func bad() map[api.Change]api.Errno {
	long := strings.Repeat("x", 41)
	return map[api.Change]api.Errno{
		{}:                                    api.ErrShape,
		set("t/A", "x"):                       api.ErrShape,
		set("", "x"):                          api.ErrShape,
		set("t/abcdefg", "x"):                 api.ErrShape,
		set("m/q/1", "x"):                     api.ErrShape,
		gone("x/a"):                           api.ErrShape,
		{Key: "t/a", Val: "x", Gone: true}:    api.ErrShape,
		{Key: "t/a", Val: "\x00", Gone: true}: api.ErrShape,
		{Key: "t/a", Val: long, Gone: true}:   api.ErrShape, // the one named first
		set("t/", long):                       api.ErrShape,
		set("t/a", long):                      api.ErrBound,
		set("t/a", strings.Repeat("é", 21)):   api.ErrBound,
		set("m/q/000000", strings.Repeat(" ", 100000)): api.ErrBound,
	}
}

func TestCheck(t *testing.T) {
	for _, c := range good() {
		if err := change.Check(c); err != nil {
			t.Errorf("C1: Check(%#v) = %v", c, err)
		}
	}
	for c, want := range bad() {
		if err := change.Check(c); err != want {
			t.Errorf("C1, Z3: Check(%#v) = %v, not %v", c, err, want)
		}
	}
}

func TestPut(t *testing.T) {
	for _, c := range []struct {
		l    []api.Change
		c    api.Change
		want []api.Change
	}{
		{nil, set("t/b", "x"), []api.Change{set("t/b", "x")}},
		{[]api.Change{}, gone("t/b"), []api.Change{gone("t/b")}},
		{[]api.Change{set("t/b", "x")}, set("t/a", "y"), []api.Change{set("t/a", "y"), set("t/b", "x")}},
		{[]api.Change{set("t/b", "x")}, set("t/c", "y"), []api.Change{set("t/b", "x"), set("t/c", "y")}},
		{[]api.Change{set("t/b", "x")}, set("t/b", "y"), []api.Change{set("t/b", "y")}},
		{[]api.Change{set("t/b", "x")}, gone("t/b"), []api.Change{gone("t/b")}},
		{[]api.Change{gone("t/b")}, set("t/b", ""), []api.Change{set("t/b", "")}},
		{[]api.Change{set("t/a", "1"), set("t/c", "3")}, set("t/b", "2"), []api.Change{set("t/a", "1"), set("t/b", "2"), set("t/c", "3")}},
		{[]api.Change{set("t/a", "1"), set("t/b", "2"), set("t/c", "3")}, gone("t/b"), []api.Change{set("t/a", "1"), gone("t/b"), set("t/c", "3")}},
		{[]api.Change{set("t/a", "1"), set("t/b", "2")}, set("t/aa", "3"), []api.Change{set("t/a", "1"), set("t/aa", "3"), set("t/b", "2")}},
		{[]api.Change{set("t/a", "1")}, set("q/z", "2"), []api.Change{set("q/z", "2"), set("t/a", "1")}},
	} {
		if got := change.Put(c.l, c.c); !slices.Equal(got, c.want) {
			t.Errorf("C2: Put(%#v, %#v) = %#v", c.l, c.c, got)
		}
	}
}

// subsets of some keys that rise, as changes that all have the value "old".
func subsets(keys []string) [][]api.Change {
	var all [][]api.Change
	for bits := range 1 << len(keys) {
		var l []api.Change
		for i, key := range keys {
			if bits>>i&1 == 1 {
				l = append(l, set(key, "old"))
			}
		}
		all = append(all, l)
	}
	return all
}

func TestPutAndFindInAll(t *testing.T) {
	keys := []string{"m/q/000000", "m/q/000001", "q/q", "t/a", "t/a0", "t/aa", "t/b"}
	for _, l := range subsets(keys) {
		for _, key := range keys {
			was, is := change.Find(l, key)
			at := slices.IndexFunc(l, func(c api.Change) bool { return c.Key == key })
			if is != (at >= 0) || is && was != l[at] || !is && was != (api.Change{}) {
				t.Errorf("C2, Z1: Find(%#v, %#v) = %#v, %v", l, key, was, is)
			}
			checkPut(t, l, set(key, "new"))
		}
	}
}

// checkPut: the list rises, has the change, and all others as they were.
func checkPut(t *testing.T, l []api.Change, c api.Change) {
	t.Helper()
	got := change.Put(l, c)
	want := slices.DeleteFunc(slices.Clone(l), func(x api.Change) bool { return x.Key == c.Key })
	want = append(want, c)
	slices.SortFunc(want, func(a, b api.Change) int { return strings.Compare(a.Key, b.Key) })
	if !slices.Equal(got, want) {
		t.Errorf("C2: Put(%#v, %#v) = %#v", l, c, got)
	}
}

func TestPutTakesAnyChange(t *testing.T) {
	for c := range bad() {
		if got := change.Put(nil, c); !slices.Equal(got, []api.Change{c}) {
			t.Errorf("C2: Put(nil, %#v) = %#v", c, got)
		}
	}
}

func TestFindNone(t *testing.T) {
	for _, l := range [][]api.Change{nil, {}, {set("t/b", "x")}} {
		for _, key := range []string{"", "t/a", "t/c", "t/b\x00", "t/"} {
			if got, is := change.Find(l, key); is || got != (api.Change{}) {
				t.Errorf("C2, Z1: Find(%#v, %#v) = %#v, %v", l, key, got, is)
			}
		}
	}
	if got, is := change.Find([]api.Change{gone("t/b")}, "t/b"); !is || got != gone("t/b") {
		t.Errorf("C2: Find of one that is gone = %#v, %v", got, is)
	}
}

func TestPutIsFreshMemory(t *testing.T) {
	whole := []api.Change{set("t/b", "1"), set("t/d", "2"), set("t/x", "behind"), set("t/y", "behind")}
	for _, key := range []string{"t/a", "t/b", "t/c", "t/d", "t/e", "t/x", "t/y", "t/z"} {
		was := slices.Clone(whole)
		l := whole[:2]
		one, two := change.Put(l, set(key, "new")), change.Put(l, set(key, "new"))
		if !slices.Equal(whole, was) {
			t.Fatalf("Z2: Put wrote into its list: %#v", whole)
		}
		checkPut(t, l, set(key, "new"))
		overwrite(one)
		if !slices.Equal(whole, was) || slices.ContainsFunc(two, func(c api.Change) bool { return c.Key == "over" }) {
			t.Errorf("Z2: what Put answered shares memory, for %#v", key)
		}
	}
}

// overwrite a list, and what is behind it.
func overwrite(l []api.Change) {
	l = l[:cap(l)]
	for i := range l {
		l[i].Key = "over"
	}
}

func TestFindKeepsToItsList(t *testing.T) {
	whole := []api.Change{set("t/a", "1"), set("t/b", "2")}
	if got, is := change.Find(whole[:1], "t/b"); is {
		t.Errorf("Z2: Find looked at what stands behind its list: %#v", got)
	}
}

func TestOthersDoNotPanic(t *testing.T) {
	for _, l := range [][]api.Change{{set("t/b", ""), set("t/a", "")}, {set("t/a", "1"), set("t/a", "2")}, {{}, {}, {}}} {
		for _, key := range []string{"", "t/", "t/a", "t/b", "t/c"} {
			change.Put(l, set(key, ""))
			change.Find(l, key)
		}
	}
}

func TestBytes(t *testing.T) {
	for want, c := range map[string]api.Change{
		"\x00\x03t/ahay":               set("t/a", "hay"),
		"\x00\x03t/a":                  set("t/a", ""),
		"\x01\x03t/a":                  gone("t/a"),
		"\x00\x0am/q/0000010 0 second": set("m/q/000001", "0 0 second"),
		"\x01\x0fm/abcdef/999999":      gone("m/abcdef/999999"),
	} {
		if got, err := change.Bytes(c); got != want || err != nil {
			t.Errorf("C3: Bytes(%#v) = %#v, %v", c, got, err)
		}
		if got, err := change.Parse(want); got != c || err != nil {
			t.Errorf("C3: Parse(%#v) = %#v, %v", want, got, err)
		}
	}
}

func TestBytesWrong(t *testing.T) {
	for c, want := range bad() {
		if got, err := change.Bytes(c); got != "" || err != want {
			t.Errorf("C3, Z1: Bytes(%#v) = %#v, %v", c, got, err)
		}
	}
}

func TestChangesAreReadAsWritten(t *testing.T) {
	for _, c := range good() {
		s, err := change.Bytes(c)
		if err != nil {
			t.Fatalf("C3: Bytes(%#v): %v", c, err)
		}
		if got, err := change.Parse(s); got != c || err != nil {
			t.Errorf("W6: %#v is written as %#v, which is read as %#v, %v", c, s, got, err)
		}
	}
}

func TestParseWrong(t *testing.T) {
	for _, s := range []string{
		"", "\x00", "\x01", "\x00\x00", "\x01\x00", "\x00\x00t/a", "\x00\x02t/", "\x00\x02t/a", "\x00\x04t/a", "\x00\x03t/", "\x00\x03t/A", "\x00\x03x/a", "\x00\xff", "\x00\xfft/a",
		"\x02\x03t/a", "\xff\x03t/a", "0\x03t/a", "1\x03t/a", "\x01\x03t/ax", "\x01\x03t/a\x00", "\x00\x03t/a" + strings.Repeat("x", 41), "\x00\x05m/q/1", "t/a", strings.Repeat("\x00", 100000),
	} {
		if got, err := change.Parse(s); got != (api.Change{}) || err != api.ErrText {
			t.Errorf("C3, Z1, Z3: Parse(%#v) = %#v, %v", s, got, err)
		}
	}
}

// TestParseMangled: bytes with one of them changed, lost or added are read only if they are some change's.
func TestParseMangled(t *testing.T) {
	for _, c := range good() {
		s, err := change.Bytes(c)
		if err != nil {
			t.Fatalf("C3: Bytes(%#v): %v", c, err)
		}
		for i := range len(s) {
			checkParse(t, s[:i])
			checkParse(t, s[:i]+s[i+1:])
			for b := range 256 {
				one := string([]byte{byte(b)})
				checkParse(t, s[:i]+one+s[i+1:])
				checkParse(t, s[:i]+one+s[i:])
			}
		}
	}
}

// checkParse: what is read is written as it was; what isn't has a wrong head, key or value.
func checkParse(t *testing.T, s string) {
	t.Helper()
	c, err := change.Parse(s)
	if err == nil {
		if back, err := change.Bytes(c); back != s || err != nil {
			t.Errorf("C3, W6: %#v is read as %#v, which is written as %#v, %v", s, c, back, err)
		}
		return
	}
	if c != (api.Change{}) || err != api.ErrText {
		t.Errorf("C3, Z1: Parse(%#v) = %#v, %v", s, c, err)
	}
	if len(s) >= 2 && s[0] <= 1 && int(s[1]) <= len(s)-2 {
		key, val := s[2:2+int(s[1])], s[2+int(s[1]):]
		if change.Check(api.Change{Key: key, Val: val, Gone: s[0] == 1}) == nil {
			t.Errorf("C3: Parse(%#v) is refused", s)
		}
	}
}
