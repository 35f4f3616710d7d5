package chart

import (
	"strings"

	"grapnel/api"
	"grapnel/pack"
)

// numberBytes is the width of a table's number.
const numberBytes = api.BodyBytes / api.Fan

// Table is a table's numbers.
func Table(body string) ([]int, api.Errno) {
	if len(body) != api.BodyBytes {
		return nil, api.ErrArg
	}
	l := make([]int, api.Fan)
	for i := range l {
		// No bytes can lack: the body's length was asked above.
		l[i], _ = pack.Get(body, i*numberBytes, numberBytes)
	}
	return l, api.OK
}

// Body is a table of numbers as a block's body.
func Body(l []int) (string, api.Errno) {
	if len(l) != api.Fan {
		return "", api.ErrArg
	}
	var body strings.Builder
	for _, n := range l {
		s, e := pack.Put(n, numberBytes)
		if e != api.OK {
			return "", e
		}
		body.WriteString(s)
	}
	return body.String(), api.OK
}
