package pack

import "grapnel/api"

// writer lays the fields of a record one behind the other, and remembers whether one of them had no room.
type writer struct {
	text []byte
	e    api.Errno
}

func (w *writer) number(n, width int) {
	s, e := Put(n, width)
	if e != api.OK {
		w.e = e
	}
	w.bytes(s)
}

func (w *writer) bytes(s string) { w.text = append(w.text, s...) }

// zeros fills up to so many bytes in all.
func (w *writer) zeros(all int) {
	for len(w.text) < all {
		w.text = append(w.text, 0)
	}
}

// record is what was laid, filled up to size bytes.
func (w *writer) record(size int) (string, api.Errno) {
	if w.e != api.OK {
		return "", w.e
	}
	return Pad(string(w.text), size)
}
