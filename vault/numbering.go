package vault

import (
	"strings"

	"grapnel/api"
	"grapnel/pack"
)

// numbering is the ideal vault's way: what it was handed, each kind counted for itself.
type numbering struct {
	texts map[text]int
	marks map[mark]int
	seals map[seal]int
}

// text is what is hashed, mark what is marked, seal what is sealed: as structs, so that no two are mixed up whose bytes are the same in a row.
type (
	text struct{ s string }
	mark struct{ label, s string }
	seal struct {
		salt         int
		nonce, ad, s string
	}
)

func newNumbering() *numbering {
	return &numbering{texts: map[text]int{}, marks: map[mark]int{}, seals: map[seal]int{}}
}

// numbered is a thing that is counted. The one that is kept is cloned, for its texts may be cut out of longer ones, which would be held on to.
type numbered[T any] interface {
	comparable
	clone() T
}

func (t text) clone() text { return text{strings.Clone(t.s)} }

func (m mark) clone() mark { return mark{strings.Clone(m.label), strings.Clone(m.s)} }

func (x seal) clone() seal {
	return seal{x.salt, strings.Clone(x.nonce), strings.Clone(x.ad), strings.Clone(x.s)}
}

// count is a thing's number: the next one, if it comes first.
func count[T numbered[T]](all map[T]int, thing T) int {
	n, known := all[thing]
	if !known {
		n = len(all) + 1
		all[thing.clone()] = n
	}
	return n
}

// counted tells whether a tag is the number of a thing that came ahead. It counts nothing.
func counted[T comparable](all map[T]int, thing T, tag string) bool {
	n, known := all[thing]
	return known && tag == wide(n, api.TagBytes)
}

// wide is a number as so many bytes.
func wide(n, width int) string {
	s, _ := pack.Pad(inBytes(n), width)
	return s
}

func (n *numbering) hash(s string) string {
	return wide(count(n.texts, text{s}), api.HashBytes)
}

func (n *numbering) mac(label, s string) string {
	return wide(count(n.marks, mark{label, s}), api.TagBytes)
}

func (n *numbering) made(label, s, tag string) bool {
	return counted(n.marks, mark{label, s}, tag)
}

func (n *numbering) seal(salt int, nonce, ad, s string) (string, api.Errno) {
	return s + wide(count(n.seals, seal{salt, nonce, ad, s}), api.TagBytes), api.OK
}

func (n *numbering) open(salt int, nonce, ad, s string) (string, api.Errno) {
	at := len(s) - api.TagBytes
	if !counted(n.seals, seal{salt, nonce, ad, s[:at]}, s[at:]) {
		return "", api.ErrTag
	}
	return strings.Clone(s[:at]), api.OK
}
