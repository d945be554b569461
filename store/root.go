package store

import (
	"strings"

	"haywain/api"
	"haywain/disk"
)

// rootHead: how a root begins, so that no other sector is taken for one.
const rootHead = "haywain rows"

// root of a store. It is one sector: behind a fall it is the new one, or the old one.
type root struct {
	area  int // 0 or 1: on which all rows were laid last
	first int // the number of the log's first sector
	size  int // how many bytes the rows have
}

// text of a root.
func (r root) text() string {
	return rootHead + string([]byte{byte(r.area), byte(r.first), byte(r.size), byte(r.size >> 8)})
}

// readRoot of a disk.
func readRoot(d *disk.Disk) (root, error) {
	text, err := d.Read(rootAt)
	if err != nil {
		return root{}, err
	}
	r, ok := parseRoot(text)
	if !ok || d.Sectors() < leastSectors {
		return root{}, api.ErrText
	}
	return r, nil
}

// parseRoot of a whole sector.
func parseRoot(text string) (root, bool) {
	rest, ok := strings.CutPrefix(text, rootHead)
	if !ok {
		return root{}, false
	}
	r := root{area: int(rest[0]), first: int(rest[1]), size: int(rest[2]) | int(rest[3])<<8}
	return r, r.area <= 1 && r.first >= 1 && r.size <= areaSectors*api.Sector
}
