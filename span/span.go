// Package span: keys from one on, up to another one.
package span

import (
	"slices"

	"haywain/api"
)

// Point: the span of one key.
func Point(key string) api.Span { return api.Span{From: key, To: key + "\x00"} }

// All keys.
func All() api.Span { return api.Span{} }

// Has a span a key?
func Has(s api.Span, key string) bool {
	return s.From <= key && (s.To == "" || key < s.To)
}

// Empty: has a span no key?
func Empty(s api.Span) bool { return s.To != "" && s.To <= s.From }

// Both: what two spans have in common.
func Both(a, b api.Span) api.Span {
	return api.Span{From: max(a.From, b.From), To: lesserEnd(a.To, b.To)}
}

// lesserEnd of two spans, where an empty one means that there is no end.
func lesserEnd(a, b string) string {
	if a == "" {
		return b
	}
	if b == "" {
		return a
	}
	return min(a, b)
}

// Meet: have two spans a key in common?
func Meet(a, b api.Span) bool {
	return !Empty(a) && !Empty(b) && !Empty(Both(a, b))
}

// Any of some spans has a key.
func Any(l []api.Span, key string) bool {
	return slices.ContainsFunc(l, func(s api.Span) bool { return Has(s, key) })
}
