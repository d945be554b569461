package log

import "haywain/api"

// What stands in a sector: a change, or that the changes ahead are a deed.
const (
	kindChange = 'o'
	kindCommit = 'c'
)

// Where in a sector its number ends, and where what it has begins.
const (
	numberEnd = 5
	headSize  = 6
)

// encode a sector.
func encode(kind byte, number int, data string) string {
	return string([]byte{kind}) + fourBytes(number) + string([]byte{byte(len(data))}) + data
}

// decode a sector: what it has, and whether it is written, by that number.
func decode(text string, number int) (kind byte, data string, written bool) {
	kind = text[0]
	if kind != kindChange && kind != kindCommit || text[1:numberEnd] != fourBytes(number) {
		return 0, "", false
	}
	size := int(text[numberEnd])
	if size > api.Sector-headSize {
		return 0, "", false
	}
	return kind, text[headSize : headSize+size], true
}

// fourBytes of a number modulo 2 to the power 32, the lowest first.
func fourBytes(n int) string {
	return string([]byte{byte(n), byte(n >> 8), byte(n >> 16), byte(n >> 24)})
}
