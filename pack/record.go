package pack

import (
	"strings"

	"grapnel/api"
)

const headMark = "GRPN"

// What is left of each record behind its fields.
const (
	headRest  = 8
	inodeRest = 376
	superRest = 394
)

// Head is a block's head as bytes.
func Head(h api.Head) (string, api.Errno) {
	w := &writer{}
	w.bytes(headMark)
	w.number(h.Volume, 6)
	w.number(h.Address, 4)
	w.number(h.Kind, 2)
	w.number(h.Ino, 4)
	w.number(h.Gen, 4)
	w.number(h.Index, 4)
	w.number(h.Version, 6)
	w.number(h.Salt, 6)
	return w.record(api.HeadBytes)
}

// HeadOf is the head that bytes are.
func HeadOf(s string) (api.Head, api.Errno) { return read(s, api.HeadBytes, takeHead) }

func takeHead(r *reader) api.Head {
	mark := r.bytes(len(headMark))
	h := api.Head{
		Volume:  r.number(6),
		Address: r.number(4),
		Kind:    r.number(2),
		Ino:     r.number(4),
		Gen:     r.number(4),
		Index:   r.number(4),
		Version: r.number(6),
		Salt:    r.number(6),
	}
	rest := r.bytes(headRest)
	r.must(mark == headMark)
	r.must(isZero(rest))
	return h
}

// Inode is an inode as a block's body.
func Inode(i api.Inode) (string, api.Errno) {
	if !isInodeKind(i.Kind) {
		return "", api.ErrRange
	}
	w := &writer{}
	w.number(i.Kind, 2)
	w.number(i.Links, 4)
	w.number(i.Size, 6)
	w.number(i.Parent, 4)
	for _, block := range i.Direct {
		w.number(block, 4)
	}
	w.number(i.Single, 4)
	w.number(i.Double, 4)
	return w.record(api.BodyBytes)
}

// InodeOf is the inode that a block's body holds.
func InodeOf(s string) (api.Inode, api.Errno) { return read(s, api.BodyBytes, takeInode) }

func takeInode(r *reader) api.Inode {
	i := api.Inode{
		Kind:   r.number(2),
		Links:  r.number(4),
		Size:   r.number(6),
		Parent: r.number(4),
	}
	for at := range i.Direct {
		i.Direct[at] = r.number(4)
	}
	i.Single = r.number(4)
	i.Double = r.number(4)
	rest := r.bytes(inodeRest)
	r.must(isInodeKind(i.Kind))
	r.must(isZero(rest))
	return i
}

func isInodeKind(kind int) bool { return kind >= api.Free && kind <= api.Sym }

// Entry is a directory's entry as bytes.
func Entry(x api.Entry) (string, api.Errno) {
	if len(x.Name) > api.MaxName {
		return "", api.ErrLong
	}
	if !namedOrFree(x) {
		return "", api.ErrForm
	}
	w := &writer{}
	w.number(len(x.Name), 1)
	w.bytes(x.Name)
	w.zeros(1 + api.MaxName)
	w.number(x.Ino, 4)
	w.number(x.Gen, 4)
	return w.record(api.EntryBytes)
}

// EntryOf is the entry that bytes are.
func EntryOf(s string) (api.Entry, api.Errno) { return read(s, api.EntryBytes, takeEntry) }

func takeEntry(r *reader) api.Entry {
	length := r.number(1)
	field := r.bytes(api.MaxName)
	x := api.Entry{
		Ino: r.number(4),
		Gen: r.number(4),
	}
	r.must(length <= api.MaxName)
	r.must(isZero(field[length:]))
	x.Name = strings.Clone(field[:length])
	r.must(namedOrFree(x))
	return x
}

// namedOrFree refuses numbers to which no name leads: a free slot has none.
func namedOrFree(x api.Entry) bool { return x.Name != "" || x.Ino == 0 && x.Gen == 0 }

// Super is a superblock as a block's body.
func Super(s api.Super) (string, api.Errno) {
	if len(s.Root) != api.HashBytes {
		return "", api.ErrArg
	}
	w := &writer{}
	w.number(s.Volume, 6)
	w.number(s.Epoch, 6)
	w.number(s.Next, 6)
	w.number(s.Live, 4)
	w.bytes(s.Root)
	return w.record(api.BodyBytes)
}

// SuperOf is the superblock that a block's body holds.
func SuperOf(s string) (api.Super, api.Errno) { return read(s, api.BodyBytes, takeSuper) }

func takeSuper(r *reader) api.Super {
	s := api.Super{
		Volume: r.number(6),
		Epoch:  r.number(6),
		Next:   r.number(6),
		Live:   r.number(4),
		Root:   strings.Clone(r.bytes(api.HashBytes)),
	}
	rest := r.bytes(superRest)
	r.must(isZero(rest))
	return s
}
