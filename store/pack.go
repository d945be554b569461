package store

import (
	"strings"

	"haywain/api"
	"haywain/change"
	"haywain/disk"
)

// A row is packed as two bytes, how many its key and its value have, and these;
// the longest key is a message's. An area holds as many rows as there may be.
const (
	packHead    = 2
	maxPacked   = packHead + len("m//000000") + api.MaxName + api.MaxVal
	areaSectors = (api.MaxRows*maxPacked + api.Sector - 1) / api.Sector
)

// sectorOf an area: its first one.
func sectorOf(area int) int { return areaAt + area*areaSectors }

// pack rows, one behind the other.
func pack(rows []api.Change) []byte {
	var text []byte
	for _, c := range rows {
		text = append(text, byte(len(c.Key)), byte(len(c.Val)))
		text = append(text, c.Key...)
		text = append(text, c.Val...)
	}
	return text
}

// readRows that were laid.
func readRows(d *disk.Disk, r root) ([]api.Change, error) {
	var text strings.Builder
	for at := sectorOf(r.area); text.Len() < r.size; at++ {
		piece, err := d.Read(at)
		if err != nil {
			return nil, err
		}
		text.WriteString(piece)
	}
	rows, ok := unpack(text.String()[:r.size])
	if !ok {
		return nil, api.ErrText
	}
	return rows, nil
}

// unpack rows: false, if these are none, or don't rise by keys.
func unpack(text string) ([]api.Change, bool) {
	var rows []api.Change
	last := ""
	for text != "" {
		c, rest, ok := cutRow(text)
		if !ok || c.Key <= last {
			return nil, false
		}
		rows, text, last = append(rows, c), rest, c.Key
	}
	return rows, true
}

// cutRow off the beginning of a text.
func cutRow(text string) (c api.Change, rest string, ok bool) {
	if len(text) < packHead {
		return c, "", false
	}
	val := packHead + int(text[0])
	end := val + int(text[1])
	if len(text) < end {
		return c, "", false
	}
	c = api.Change{Key: text[packHead:val], Val: text[val:end]}
	return c, text[end:], change.Check(c) == nil
}
