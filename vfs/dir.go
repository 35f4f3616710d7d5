package vfs

import (
	"grapnel/api"
	"grapnel/shelf"
)

// slot is a place in a directory.
type slot struct {
	spot
	place int
}

// pages is how many blocks of slots a directory has.
func (n node) pages() int { return n.Size / api.BodyBytes }

// page is the slots of a directory's block; free ones, where it has none.
func (w *work) page(dir node, x spot) ([]api.Entry, error) {
	if x.at == 0 {
		return make([]api.Entry, api.Slots), nil
	}
	body, err := w.read(x.at, dir.data(x.index))
	if err != nil {
		return nil, err
	}
	l, e := shelf.Page(body)
	if e != api.OK {
		return nil, damaged(x.at)
	}
	return l, nil
}

// putPage lets a directory's block wait.
func (w *work) putPage(dir node, x spot, l []api.Entry) error {
	body, e := shelf.Body(l)
	if e != api.OK {
		return refused("a directory", e)
	}
	w.put(x.at, piece{id: dir.data(x.index), body: body})
	return nil
}

// seek is the first slot of a directory at which a block's slots answer with a place, and how these are; false, if none does. Blocks behind it are not needed.
func (w *work) seek(dir node, place func(l []api.Entry) (int, bool)) (slot, api.Entry, bool, error) {
	for x, err := range w.spread(dir, 0, dir.pages()) {
		if err != nil {
			return slot{}, api.Entry{}, false, err
		}
		l, err := w.page(dir, x)
		if err != nil {
			return slot{}, api.Entry{}, false, err
		}
		if i, ok := place(l); ok {
			return slot{spot: x, place: i}, l[i], true, nil
		}
	}
	return slot{}, api.Entry{}, false, nil
}

// find is where a name stands in a directory, and its entry.
func (w *work) find(dir node, name string) (slot, api.Entry, bool, error) {
	return w.seek(dir, func(l []api.Entry) (int, bool) {
		i := shelf.Find(l, name)
		return i, i >= 0
	})
}

// isEmpty tells whether a directory has no names.
func (w *work) isEmpty(dir node) (bool, error) {
	_, _, has, err := w.seek(dir, func(l []api.Entry) (int, bool) {
		return 0, len(shelf.Names(l)) > 0
	})
	return !has, err
}

// entries is a directory's names, as they stand.
func (w *work) entries(dir node) ([]api.Entry, error) {
	var all []api.Entry
	_, _, _, err := w.seek(dir, func(l []api.Entry) (int, bool) {
		all = append(all, shelf.Names(l)...)
		return 0, false
	})
	return all, err
}

// addName puts a name into a directory's first free slot, or into the first one of a block more.
func (w *work) addName(dir node, x api.Entry) error {
	s, _, ok, err := w.seek(dir, func(l []api.Entry) (int, bool) {
		i := shelf.Spare(l)
		return i, i < len(l)
	})
	if err != nil {
		return err
	}
	if !ok {
		s = slot{spot: spot{index: dir.pages()}}
		dir.Size += api.BodyBytes
	}
	if err := w.fillSlot(&dir, s, x); err != nil {
		return err
	}
	return w.save(dir)
}

// fillSlot puts an entry into a slot; the one without a name frees it. A block is taken, where the directory has none.
func (w *work) fillSlot(dir *node, s slot, x api.Entry) error {
	l, err := w.page(*dir, s.spot)
	if err != nil {
		return err
	}
	if s.at == 0 {
		if s.at, err = w.takeBlock(); err != nil {
			return err
		}
		if err := w.point(dir, s.spot); err != nil {
			return err
		}
	}
	l[s.place] = x
	return w.putPage(*dir, s.spot, l)
}
