// Package change: changes of rows, and their bytes.
package change

import (
	"slices"

	"haywain/api"
	"haywain/row"
)

// What the first byte of a change's bytes says, and how many bytes stand ahead of the key.
const (
	markSet  = 0
	markGone = 1
	headSize = 2
)

// Check a change.
func Check(c api.Change) error {
	if err := row.Check(c.Key); err != nil {
		return err
	}
	if c.Gone && c.Val != "" {
		return api.ErrShape
	}
	if len(c.Val) > api.MaxVal {
		return api.ErrBound
	}
	return nil
}

// Put a change among others, which rise by keys: in the place of one of the same key.
func Put(l []api.Change, c api.Change) []api.Change {
	at, found := place(l, c.Key)
	behind := at
	if found {
		behind++
	}
	return slices.Concat(l[:at], []api.Change{c}, l[behind:])
}

// Find the change of a key.
func Find(l []api.Change, key string) (api.Change, bool) {
	at, found := place(l, key)
	if !found {
		return api.Change{}, false
	}
	return l[at], true
}

// place where a key stands, or belongs: a deed has few changes, so they are gone over one by one.
func place(l []api.Change, key string) (at int, found bool) {
	for at < len(l) && l[at].Key < key {
		at++
	}
	return at, at < len(l) && l[at].Key == key
}

// Bytes of a change: is it gone, how long its key is, it, its value.
func Bytes(c api.Change) (string, error) {
	if err := Check(c); err != nil {
		return "", err
	}
	head := []byte{markSet, byte(len(c.Key))}
	if c.Gone {
		head[0] = markGone
	}
	return string(head) + c.Key + c.Val, nil
}

// Parse bytes of a change.
func Parse(s string) (api.Change, error) {
	c, ok := split(s)
	if !ok || Check(c) != nil {
		return api.Change{}, api.ErrText
	}
	return c, nil
}

// split bytes into a change that may still be one that Check refuses.
func split(s string) (c api.Change, ok bool) {
	if len(s) < headSize || s[0] > markGone {
		return c, false
	}
	behind := headSize + int(s[1])
	if len(s) < behind {
		return c, false
	}
	return api.Change{Key: s[headSize:behind], Val: s[behind:], Gone: s[0] == markGone}, true
}
