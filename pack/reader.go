package pack

import (
	"strings"

	"grapnel/api"
)

// gaveUp is what a reader panics with. A type of its own, so that a fault of another kind is not taken for an answer.
type gaveUp struct{ why api.Errno }

// reader takes the fields of a record one behind the other, and gives up where bytes lack.
type reader struct {
	text string
	at   int
}

// read is the record that take finds in s, which must have just size bytes.
func read[T any](s string, size int, take func(r *reader) T) (x T, e api.Errno) {
	defer func() {
		fault := recover()
		if fault == nil {
			return
		}
		g, ok := fault.(gaveUp)
		if !ok {
			panic(fault)
		}
		e = g.why
	}()
	if len(s) > size {
		return x, api.ErrLong
	}
	return take(&reader{text: s}), api.OK
}

func (r *reader) number(width int) int {
	n, e := Get(r.text, r.at, width)
	if e != api.OK {
		panic(gaveUp{e})
	}
	r.at += width
	return n
}

// bytes is the next piece of the text itself: who keeps it makes it new.
func (r *reader) bytes(n int) string {
	if n > len(r.text)-r.at {
		panic(gaveUp{api.ErrShort})
	}
	s := r.text[r.at : r.at+n]
	r.at += n
	return s
}

// must gives up on bytes of another form. It is asked when all fields are taken, for bytes that lack come first.
func (r *reader) must(right bool) {
	if !right {
		panic(gaveUp{api.ErrForm})
	}
}

func isZero(s string) bool { return strings.Trim(s, "\x00") == "" }
