package chart

import (
	"slices"

	"grapnel/api"
)

// The first index that each level tells: the inode those from 0 on.
const (
	firstSingle = api.Direct
	firstDouble = firstSingle + api.Fan
)

// none is ahead of every index.
const none = -1

// Place is where an index of a file is told: 0: in the inode (at a); 1: in its table (at a); 2: in the table a of its tables (at b).
func Place(index int) (level, a, b int, e api.Errno) {
	switch {
	case index < 0 || index >= api.MaxIndex:
		return 0, 0, 0, api.ErrRange
	case index < firstSingle:
		return 0, index, 0, api.OK
	case index < firstDouble:
		return 1, index - firstSingle, 0, api.OK
	}
	index -= firstDouble
	return 2, index / api.Fan, index % api.Fan, api.OK
}

// Blocks is how many blocks a file has that has these indices: they, and tables.
func Blocks(l []int) (int, api.Errno) {
	if !rising(l) {
		return 0, api.ErrArg
	}
	return count(l), api.OK
}

// More is how many blocks more a file needs that has some indices, and is to have others, too.
func More(have, want []int) (int, api.Errno) {
	if !rising(have) || !rising(want) {
		return 0, api.ErrArg
	}
	both := slices.Concat(have, want)
	slices.Sort(both)
	return count(slices.Compact(both)) - count(have), api.OK
}

// Span is how many indices a size has.
func Span(size int) (int, api.Errno) {
	if size < 0 || size > api.MaxSize {
		return 0, api.ErrRange
	}
	return roundUp(size, api.BodyBytes), api.OK
}

// Touched is the indices of n bytes from a place on.
func Touched(at, n int) ([]int, api.Errno) {
	// at and n are not added ahead of this: their sum may be beyond the greatest number there is.
	if at < 0 || n < 0 || at > api.MaxSize-n {
		return nil, api.ErrRange
	}
	if n == 0 {
		return nil, api.OK
	}
	first, last := at/api.BodyBytes, (at+n-1)/api.BodyBytes
	l := make([]int, 0, last-first+1)
	for index := first; index <= last; index++ {
		l = append(l, index)
	}
	return l, api.OK
}

// rising tells whether a list is indices, each greater than the one ahead of it.
func rising(l []int) bool {
	last := none
	for _, index := range l {
		if index <= last || index >= api.MaxIndex {
			return false
		}
		last = index
	}
	return true
}

// count is how many blocks a file has that has these rising indices.
func count(l []int) int {
	blocks, last := 0, none
	for _, index := range l {
		blocks += brought(last, index)
		last = index
	}
	return blocks
}

// brought is how many blocks an index brings that none ahead of it brought, of which last is the greatest one.
// Since indices rise, a block is new just if last is ahead of the first index that is told by way of it.
func brought(last, index int) int {
	blocks := 0
	level, _, _, _ := Place(index)
	switch level {
	case 2:
		if last < firstDouble {
			blocks++
		}
		fallthrough
	case 1:
		if last < index-(index-firstSingle)%api.Fan {
			blocks++
		}
		fallthrough
	default:
		blocks++
	}
	return blocks
}
