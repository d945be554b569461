package span_test

import (
	"strings"
	"testing"

	"haywain/api"
	"haywain/span"
)

// keys that lie close to each other, and at the ends; all of them rise as bytes.
func keys() []string {
	return []string{"", "\x00", "\x00\x00", "a", "a\x00", "a\x00\x00", "a\x01", "aa", "ab", "b", "t/", "t/a", "t/a\x00", "t/b", "t0", "\x7f", "\x80", "é", "\xff", "\xff\x00", "\xff\xff"}
}

// spans whose ends are such keys.
func spans() []api.Span {
	var l []api.Span
	for _, from := range keys() {
		for _, to := range keys() {
			l = append(l, api.Span{From: from, To: to})
		}
	}
	return l
}

// below as the document has it: by the first byte at which two texts differ, or the one that is the other's beginning.
func below(a, b string) bool {
	for i := range min(len(a), len(b)) {
		if a[i] != b[i] {
			return a[i] < b[i]
		}
	}
	return len(a) < len(b)
}

func TestHas(t *testing.T) {
	for _, s := range spans() {
		for _, key := range keys() {
			want := !below(key, s.From) && (s.To == "" || below(key, s.To))
			if got := span.Has(s, key); got != want {
				t.Errorf("B1: Has(%q, %q) = %v", s, key, got)
			}
		}
	}
}

func TestHasOrdinary(t *testing.T) {
	for _, c := range []struct {
		s    api.Span
		key  string
		want bool
	}{
		{api.Span{From: "t/a", To: "t/c"}, "t/a", true},
		{api.Span{From: "t/a", To: "t/c"}, "t/bzz", true},
		{api.Span{From: "t/a", To: "t/c"}, "t/c", false},
		{api.Span{From: "t/a", To: "t/c"}, "t/", false},
		{api.Span{From: "t/b"}, "zzz", true},
		{api.Span{From: "t/b"}, "t/a", false},
		{api.Span{To: "t/b"}, "", true},
		{api.Span{From: "t/b", To: "t/a"}, "t/a", false},
		{api.Span{From: "t/b", To: "t/a"}, "t/b", false},
		{api.Span{From: "t/b", To: "t/b"}, "t/b", false},
	} {
		if got := span.Has(c.s, c.key); got != c.want {
			t.Errorf("B1: Has(%q, %q) = %v", c.s, c.key, got)
		}
	}
}

func TestEmpty(t *testing.T) {
	for _, s := range spans() {
		want := s.To != "" && !below(s.From, s.To)
		if got := span.Empty(s); got != want {
			t.Errorf("B1: Empty(%q) = %v", s, got)
		}
		// From is the least key that a span can have.
		if got := span.Empty(s); got == span.Has(s, s.From) {
			t.Errorf("B1: Empty(%q) = %v, but that Has its From is as well", s, got)
		}
	}
}

func TestPoint(t *testing.T) {
	for _, key := range keys() {
		p := span.Point(key)
		if p != (api.Span{From: key, To: key + "\x00"}) {
			t.Errorf("B1: Point(%q) = %q", key, p)
		}
		if span.Empty(p) {
			t.Errorf("B1: Point(%q) is empty", key)
		}
		for _, other := range keys() {
			if got := span.Has(p, other); got != (key == other) {
				t.Errorf("B1: Point(%q) has %q: %v", key, other, got)
			}
		}
	}
}

func TestAll(t *testing.T) {
	if got := span.All(); got != (api.Span{}) || span.Empty(got) {
		t.Errorf("B1: All() = %q", got)
	}
	for _, key := range keys() {
		if !span.Has(span.All(), key) {
			t.Errorf("B1: All() lacks %q", key)
		}
	}
}

func TestBothOrdinary(t *testing.T) {
	for _, c := range []struct{ a, b, want api.Span }{
		{api.Span{From: "a", To: "c"}, api.Span{From: "b", To: "d"}, api.Span{From: "b", To: "c"}},
		{api.Span{From: "a", To: "d"}, api.Span{From: "b", To: "c"}, api.Span{From: "b", To: "c"}},
		{api.Span{From: "a"}, api.Span{From: "b", To: "c"}, api.Span{From: "b", To: "c"}},
		{api.Span{From: "a", To: "c"}, api.Span{From: "b"}, api.Span{From: "b", To: "c"}},
		{api.Span{From: "a"}, api.Span{From: "b"}, api.Span{From: "b"}},
		{api.Span{}, api.Span{}, api.Span{}},
		{api.Span{From: "a", To: "b"}, api.Span{From: "c", To: "d"}, api.Span{From: "c", To: "b"}},
		{api.Span{From: "b", To: "a"}, api.Span{}, api.Span{From: "b", To: "a"}},
	} {
		if got := span.Both(c.a, c.b); got != c.want {
			t.Errorf("B2: Both(%q, %q) = %q", c.a, c.b, got)
		}
		if got := span.Both(c.b, c.a); got != c.want {
			t.Errorf("B2: Both(%q, %q) = %q", c.b, c.a, got)
		}
	}
}

func TestBothHasWhatBothHave(t *testing.T) {
	for _, a := range spans() {
		for _, b := range spans() {
			both := span.Both(a, b)
			for _, key := range keys() {
				if got, want := span.Has(both, key), span.Has(a, key) && span.Has(b, key); got != want {
					t.Fatalf("B2, W6: Both(%q, %q) has %q: %v", a, b, key, got)
				}
			}
		}
	}
}

func TestMeet(t *testing.T) {
	for _, a := range spans() {
		for _, b := range spans() {
			// If two spans have a key in common, they have the greater From.
			common := a.From
			if below(common, b.From) {
				common = b.From
			}
			want := span.Has(a, common) && span.Has(b, common)
			if got := span.Meet(a, b); got != want {
				t.Fatalf("B2, W6: Meet(%q, %q) = %v", a, b, got)
			}
		}
	}
}

func TestMeetOrdinary(t *testing.T) {
	for _, c := range []struct {
		a, b api.Span
		want bool
	}{
		{api.Span{From: "a", To: "c"}, api.Span{From: "b", To: "d"}, true},
		{api.Span{From: "a", To: "b"}, api.Span{From: "b", To: "c"}, false},
		{api.Span{From: "a", To: "b"}, api.Span{From: "c"}, false},
		{api.Span{From: "a"}, api.Span{From: "c"}, true},
		{api.Span{From: "b", To: "a"}, api.Span{}, false},
		{api.Span{From: "b", To: "b"}, api.Span{From: "b", To: "b"}, false},
		{span.Point("a"), span.Point("a"), true},
		{span.Point("a"), span.Point("a\x00"), false},
		{span.Point(""), span.All(), true},
	} {
		if got := span.Meet(c.a, c.b); got != c.want {
			t.Errorf("B2: Meet(%q, %q) = %v", c.a, c.b, got)
		}
		if got := span.Meet(c.b, c.a); got != c.want {
			t.Errorf("B2: Meet(%q, %q) = %v", c.b, c.a, got)
		}
	}
}

func TestAny(t *testing.T) {
	some := []api.Span{{From: "c", To: "a"}, span.Point("b"), {From: "t/a", To: "t/c"}}
	for key, want := range map[string]bool{"b": true, "t/a": true, "t/b": true, "t/c": false, "a": false, "b\x00": false, "": false} {
		if got := span.Any(some, key); got != want {
			t.Errorf("B2: Any(%q, %q) = %v", some, key, got)
		}
	}
	for _, key := range keys() {
		if span.Any(nil, key) || span.Any([]api.Span{}, key) {
			t.Errorf("B2: Any of none has %q", key)
		}
		if !span.Any([]api.Span{{From: "b", To: "a"}, span.All()}, key) || !span.Any([]api.Span{span.All(), {From: "b", To: "a"}}, key) {
			t.Errorf("B2: Any of some, of which one is All, lacks %q", key)
		}
	}
}

func TestAnyKeepsToItsList(t *testing.T) {
	whole := []api.Span{span.Point("a"), span.All()}
	if span.Any(whole[:1], "b") {
		t.Error("Z2: Any looked at what stands behind its list")
	}
	if !span.Any(whole[:1], "a") || whole[0] != span.Point("a") || whole[1] != span.All() {
		t.Errorf("Z2: Any wrote into its list: %q", whole)
	}
}

func TestNothingPanics(t *testing.T) {
	long := strings.Repeat("\xff", 100000)
	for _, a := range []api.Span{{}, {From: long}, {To: long}, {From: long, To: long}, span.Point(long)} {
		for _, b := range spans() {
			span.Both(a, b)
			span.Meet(a, b)
			span.Empty(a)
			span.Any([]api.Span{a, b}, long)
		}
	}
}
