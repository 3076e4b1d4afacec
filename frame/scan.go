package frame

import (
	"strings"

	"touchstone/api"
	"touchstone/codec"
)

// Scan is the records of the frames with which bytes begin, how many bytes these have, and how it ends.
func Scan(s string) ([]string, int, int) {
	var records []string
	taken := 0
	for {
		record, whole, end := first(s[taken:])
		if !whole {
			return records, taken, end
		}
		records = append(records, record)
		taken += Size(record)
	}
}

// first is the record of the frame with which left begins. If it begins with none that is whole and right, first tells how it ends.
func first(left string) (record string, whole bool, end int) {
	part := headBytes
	switch size, right := readHead(left); {
	case left == "":
		return "", false, api.EndClean
	case right:
		// A body that is not all there is torn as a head is that is not all there.
		left, part = left[headBytes:], size+sumBytes
		fallthrough
	default:
		if len(left) < part {
			return "", false, api.EndTorn
		}
		if !right {
			return "", false, api.EndBroken
		}
		return readBody(left, size)
	}
}

// readHead is how many bytes the record has whose head stands first, if that is right: so many as may be, and its sum fits.
func readHead(left string) (size int, right bool) {
	if len(left) < headBytes {
		return 0, false
	}
	length, right := unseal(left, lengthBytes, headMark)
	n, _ := codec.GetFixed(length)
	// Held against each other as numbers of 32 bits: such a length may be too great for an int.
	if !right || n > api.MaxRecord {
		return 0, false
	}
	return int(n), true
}

// readBody is the record of a body that is all there.
func readBody(body string, size int) (record string, whole bool, end int) {
	record, right := unseal(body, size, bodyMark)
	if !right {
		return "", false, api.EndBroken
	}
	return strings.Clone(record), true, api.EndClean
}

// unseal is the text of so many bytes that stands first, and whether the sum behind it, which must be there, is its own.
func unseal(left string, size int, mark string) (text string, right bool) {
	text = left[:size]
	sum, _ := codec.GetFixed(left[size:])
	return text, sum == codec.Sum(text, mark)
}
