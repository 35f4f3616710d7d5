package vfs

import (
	"iter"
	"slices"

	"grapnel/api"
	"grapnel/chart"
)

// The first index that the table tells, and the first that the tables' tables do.
const (
	firstSingle = api.Direct
	firstDouble = firstSingle + api.Fan
)

// spot is an index, and where its block is; 0: there is none.
type spot struct{ index, at int }

// table is which table of an inode it is: its own, its tables, or a table of these.
func (n node) table(kind, index int) id {
	return id{kind: kind, ino: n.ino, gen: n.gen, index: index}
}

func (n node) single() id { return n.table(api.KindTable, 0) }

func (n node) double() id { return n.table(api.KindTables, 0) }

func (n node) inner(a int) id { return n.table(api.KindTable, 1+a) }

// data is which block of an inode one is that holds its bytes or slots.
func (n node) data(index int) id {
	if n.Kind == api.Dir {
		return n.table(api.KindDir, index)
	}
	return n.table(api.KindData, index)
}

// numbers is what a table tells; nothing, if there is none.
func (w *work) numbers(at int, is id) ([]int, error) {
	if at == 0 {
		return make([]int, api.Fan), nil
	}
	body, err := w.read(at, is)
	if err != nil {
		return nil, err
	}
	l, e := chart.Table(body)
	return l, refused("a table", e)
}

// putNumbers is where a table is that is to tell these: it is taken, if it was none, and goes, if it tells nothing.
func (w *work) putNumbers(at int, is id, l []int) (int, error) {
	if !slices.ContainsFunc(l, func(n int) bool { return n != 0 }) {
		return 0, w.freeSpot(at)
	}
	body, e := chart.Body(l)
	if e != api.OK {
		return 0, refused("a table", e)
	}
	if at == 0 {
		taken, err := w.takeBlock()
		if err != nil {
			return 0, err
		}
		at = taken
	}
	w.put(at, piece{id: is, body: body})
	return at, nil
}

// run is the numbers among which an index is told, and the index of the first of these.
func (w *work) run(n node, index int) ([]int, int, error) {
	level, a, _, e := chart.Place(index)
	if e != api.OK {
		return nil, 0, refused("an index", e)
	}
	switch level {
	case 0:
		return n.Direct[:], 0, nil
	case 1:
		l, err := w.numbers(n.Single, n.single())
		return l, firstSingle, err
	}
	outer, err := w.numbers(n.Double, n.double())
	if err != nil {
		return nil, 0, err
	}
	l, err := w.numbers(outer[a], n.inner(a))
	return l, firstDouble + a*api.Fan, err
}

// spread is where an inode's indices are, from one up to another, which is left out. No table is read that tells none of those that are gone through.
func (w *work) spread(n node, from, to int) iter.Seq2[spot, error] {
	return func(yield func(spot, error) bool) {
		for index := from; index < to; {
			l, first, err := w.run(n, index)
			if err != nil {
				yield(spot{}, err)
				return
			}
			for end := min(to, first+len(l)); index < end; index++ {
				if !yield(spot{index: index, at: l[index-first]}, nil) {
					return
				}
			}
		}
	}
}

// spots is all of these.
func (w *work) spots(n node, from, to int) ([]spot, error) {
	var l []spot
	for x, err := range w.spread(n, from, to) {
		if err != nil {
			return nil, err
		}
		l = append(l, x)
	}
	return l, nil
}

// point tells where an index's block is, in the inode or in tables.
func (w *work) point(n *node, x spot) error {
	level, a, b, e := chart.Place(x.index)
	if e != api.OK {
		return refused("an index", e)
	}
	switch level {
	case 0:
		n.Direct[a] = x.at
		return nil
	case 1:
		return w.pointIn(&n.Single, n.single(), a, x.at)
	}
	outer, err := w.numbers(n.Double, n.double())
	if err != nil {
		return err
	}
	if err := w.pointIn(&outer[a], n.inner(a), b, x.at); err != nil {
		return err
	}
	n.Double, err = w.putNumbers(n.Double, n.double(), outer)
	return err
}

// pointIn tells it at a place of a table, which may be taken for that.
func (w *work) pointIn(table *int, is id, place, at int) error {
	l, err := w.numbers(*table, is)
	if err != nil {
		return err
	}
	l[place] = at
	*table, err = w.putNumbers(*table, is, l)
	return err
}

// cut lets all indices from one on go, and the tables that tell nothing more.
func (w *work) cut(n *node, from int) error {
	if err := w.freeFrom(n.Direct[:], from); err != nil {
		return err
	}
	if err := w.cutTable(&n.Single, n.single(), from-firstSingle); err != nil {
		return err
	}
	outer, err := w.numbers(n.Double, n.double())
	if err != nil {
		return err
	}
	for a := range outer {
		if err := w.cutTable(&outer[a], n.inner(a), from-firstDouble-a*api.Fan); err != nil {
			return err
		}
	}
	n.Double, err = w.putNumbers(n.Double, n.double(), outer)
	return err
}

// cutTable lets go what a table tells from a place on, and the table with the last of it. One that keeps all is not read.
func (w *work) cutTable(table *int, is id, from int) error {
	if *table == 0 || from >= api.Fan {
		return nil
	}
	l, err := w.numbers(*table, is)
	if err != nil {
		return err
	}
	if err := w.freeFrom(l, from); err != nil {
		return err
	}
	*table, err = w.putNumbers(*table, is, l)
	return err
}

// freeFrom lets the blocks go that are told from a place on.
func (w *work) freeFrom(l []int, from int) error {
	for i := max(from, 0); i < len(l); i++ {
		if err := w.freeSpot(l[i]); err != nil {
			return err
		}
		l[i] = 0
	}
	return nil
}

// freeSpot lets a block go, if there is one.
func (w *work) freeSpot(at int) error {
	if at == 0 {
		return nil
	}
	return w.freeBlock(at)
}
