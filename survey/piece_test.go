package survey_test

import (
	"slices"
	"strconv"
	"testing"

	"grapnel/api"
	"grapnel/survey"
	"grapnel/vault"
)

// tablesOfA is where the tables of /a stand: its own, its tables, and the three tables of these.
const (
	singleOfA = 59
	doubleOfA = 64
	firstOfA  = 63
	secondOfA = 68
	lastOfA   = 70
)

// has is that /a has these indices behind the verdict, and no others.
func has(must ...int) func(t *testing.T, s *scene) {
	return func(t *testing.T, s *scene) {
		t.Helper()
		i := s.inode(inoA)
		var l []int
		add := func(first int, numbers []int) {
			for k, at := range numbers {
				if at != 0 {
					l = append(l, first+k)
				}
			}
		}
		add(0, i.Direct[:])
		if i.Single != 0 {
			add(12, s.table(i.Single))
		}
		if i.Double != 0 {
			for a, at := range s.table(i.Double) {
				if at != 0 {
					add(124+112*a, s.table(at))
				}
			}
		}
		same(t, "the indices of /a", l, must)
	}
}

// but is the indices of /a without some.
func but(lost ...int) []int {
	var l []int
	for _, index := range indicesOfA {
		if !slices.Contains(lost, index) {
			l = append(l, index)
		}
	}
	return l
}

// 14.2, 'Pieces': what a pointer leads to must be a piece of that kind, inode, generation and index; at the bounds of the inode's own pointers, of a table and of the tables.
func TestPieces(t *testing.T) {
	_, x := stored(t, vault.Ideal())
	at := newScene(t, x).at
	var l []trial
	for _, index := range indicesOfA {
		found := []api.Finding{f(5, inoA, index), f(11, 1)}
		add := func(name string, change func(s *scene)) {
			l = append(l, trial{name + ", the index " + strconv.Itoa(index), change, found, has(but(index)...)})
		}
		add("lost", func(s *scene) { s.lose(at(inoA, index)) })
		add("not Ok", func(s *scene) { s.x.Readings[at(inoA, index)].Ok = false })
		for _, kind := range []int{0, 3, 4, 5, 6, 8, 9, 10} {
			add("another kind", func(s *scene) { s.head(at(inoA, index), func(h *api.Head) { h.Kind = kind }) })
		}
		for _, ino := range []int{0, 1, 2, 4, 8, 12, 21} {
			add("another inode's", func(s *scene) { s.head(at(inoA, index), func(h *api.Head) { h.Ino = ino }) })
		}
		for _, gen := range []int{0, 2, -1, 1 << 32} {
			add("another generation's", func(s *scene) { s.head(at(inoA, index), func(h *api.Head) { h.Gen = gen }) })
		}
		for _, k := range []int{index + 1, index - 1, 12668, 0, 12} {
			if k != index {
				add("another index's", func(s *scene) { s.head(at(inoA, index), func(h *api.Head) { h.Index = k }) })
			}
		}
		// Pointers that lead elsewhere.
		point := func(s *scene, to int) {
			switch {
			case index < 12:
				s.say(inoA, func(i *api.Inode) { i.Direct[index] = to })
			case index < 124:
				s.point(singleOfA, index-12, to)
			default:
				s.point(s.inner(inoA, 1+(index-124)/112), (index-124)%112, to)
			}
		}
		for name, to := range map[string]int{"to a superblock": 1, "to the journal": 5, "to a grid": 27, "to an inode": 31, "to lost+found": 49, "to the root": 51, "beyond the living part": 160, "far beyond": 1<<32 - 1, "to what another one has": at(inoF, 0), "to what is free": 74, "to where nothing stands": 159, "to another index": at(inoA, 1+index%2*10), "to its table": singleOfA} {
			if to != at(inoA, index) {
				add(name, func(s *scene) { point(s, to) })
			}
		}
		// What stands below the data is no piece, even if it were just that block.
		for _, to := range []int{5, 27, 35, 49, 51} {
			more := map[int][]api.Finding{27: nil, 35: lostNodes()[inoE], 49: {f(5, 2, 0)}, 51: orphansOfRoot(f(5, 1, 0))}[to]
			l = append(l, trial{"that block below the data, at " + strconv.Itoa(to), func(s *scene) {
				point(s, to)
				r := x.Readings[at(inoA, index)]
				s.x.Readings[to] = r
			}, slices.Compact(rising(append(slices.Clone(found), more...))), has(but(index)...)})
		}
		l = append(l, trial{"no pointer, the index " + strconv.Itoa(index), func(s *scene) { point(s, 0) }, []api.Finding{f(11, 1)}, has(but(index)...)})
		to := 150
		l = append(l, trial{"moved, the index " + strconv.Itoa(index), func(s *scene) { point(s, to); s.moved(at(inoA, index), to) }, []api.Finding{f(11, 1)}, has(indicesOfA...)})
	}
	for _, c := range l {
		try(t, x, c)
	}
}

// 14.2, 'Pieces': an address is had once.
func TestPiecesTwice(t *testing.T) {
	tryAll(t, []trial{
		{"two pointers of the inode to one", func(s *scene) { s.say(inoA, func(i *api.Inode) { i.Direct[2] = i.Direct[1] }) }, []api.Finding{f(5, inoA, 2)}, has(indicesOfA...)},
		{"two pointers of a table to one", func(s *scene) { s.point(singleOfA, 50, s.at(inoA, 12)) }, []api.Finding{f(5, inoA, 62)}, has(indicesOfA...)},
		{"two tables' pointers to one table", func(s *scene) { s.point(doubleOfA, 2, firstOfA) }, []api.Finding{f(4, inoA, 5)}, has(indicesOfA...)},
		{"exchanged", func(s *scene) {
			s.say(inoA, func(i *api.Inode) { i.Direct[0], i.Direct[1] = i.Direct[1], i.Direct[0] })
		}, []api.Finding{f(5, inoA, 0), f(5, inoA, 1), f(11, 1)}, has(but(0, 1)...)},
		{"of another inode, that is ahead", func(s *scene) { s.say(inoF, func(i *api.Inode) { i.Direct[0] = s.at(inoA, 0) }) }, []api.Finding{f(5, inoF, 0), f(11, 1)}, has(indicesOfA...)},
	})
}

// 14.2, 'Pieces': of a size's indices alone what is told counts, at each bound; a table none of whose indices it has is not looked at.
func TestPiecesSizes(t *testing.T) {
	_, x := stored(t, vault.Ideal())
	for _, index := range []int{0, 1, 2, 11, 12, 13, 14, 123, 124, 125, 126, 235, 236, 237, 347, 348, 12555, 12556, 12557, 12667, 12668} {
		for _, size := range []int{index*448 - 1, index * 448, index*448 + 1} {
			if size < 0 || size > 5675264 {
				continue
			}
			span := (size + 447) / 448
			var left []int
			for _, k := range indicesOfA {
				if k < span {
					left = append(left, k)
				}
			}
			var found []api.Finding
			if len(left) < len(indicesOfA) {
				found = []api.Finding{f(11, 1)}
			}
			smaller := func(s *scene) { s.say(inoA, func(i *api.Inode) { i.Size = size }) }
			try(t, x, trial{"the size " + strconv.Itoa(size), smaller, found, has(left...)})
			// The same with all tables lost that it has no index of; and with all tables lost.
			first := map[int]int{singleOfA: 12, doubleOfA: 124, firstOfA: 124, secondOfA: 236, lastOfA: 12556}
			try(t, x, trial{"tables lost beyond the size " + strconv.Itoa(size), func(s *scene) {
				smaller(s)
				for at, index := range first {
					if index >= span {
						s.lose(at)
					}
				}
			}, found, has(left...)})
			torn := slices.Clone(found)
			called := map[int]int{singleOfA: 1, firstOfA: 3, secondOfA: 4, lastOfA: 114}
			for at, index := range first {
				if at != doubleOfA && index < span {
					torn = append(torn, f(4, inoA, called[at]))
				}
			}
			// Of a table there is none any more, if it tells nothing.
			for _, k := range left {
				if k >= 12 {
					torn = append(torn, f(6, inoA, k, newScene(t, x).at(inoA, k)))
				}
			}
			if span > 12556 && span < 12668 {
				found = []api.Finding{f(11, 1)}
			}
			try(t, x, trial{"all tables lost, the size " + strconv.Itoa(size), func(s *scene) {
				smaller(s)
				s.lose(singleOfA, firstOfA, secondOfA, lastOfA)
			}, torn, has(left...)})
		}
	}
}

// 14.2, 'Pieces': a directory's block must be one of slots; a file's may be anything.
func TestPiecesPages(t *testing.T) {
	entry := func(s *scene, at int, body string) { s.x.Readings[at].Body = body }
	tryAll(t, []trial{
		{"a directory's block that is none", func(s *scene) { entry(s, s.at(inoD, 1), filled(1, 448)) }, []api.Finding{f(5, inoD, 1), f(9, inoB, 219, 215), f(11, 1)}, nil},
		{"a directory's block of fewer bytes", func(s *scene) { entry(s, s.at(inoD, 1), blank(447)) }, []api.Finding{f(5, inoD, 1), f(9, inoB, 219, 215), f(11, 1)}, nil},
		{"a directory's block as a file's", func(s *scene) { s.head(s.at(inoD, 1), func(h *api.Head) { h.Kind = 7 }) }, []api.Finding{f(5, inoD, 1), f(9, inoB, 219, 215), f(11, 1)}, nil},
		{"a file's block", func(s *scene) { entry(s, s.at(inoA, 1), filled(9, 448)) }, nil, has(indicesOfA...)},
		{"a file's block of no bytes", func(s *scene) { entry(s, s.at(inoA, 1), "") }, nil, has(indicesOfA...)},
		{"a directory's table tells nothing", func(s *scene) { s.point(s.inner(inoBig, 0), 0, 0) }, []api.Finding{f(9, inoB, 219, 211), f(11, 1)}, func(t *testing.T, s *scene) {
			if i := s.inode(inoBig); i.Single != 0 || i.Size != 13*448 {
				t.Fatalf("/big: %+v", i)
			}
		}},
		{"a hole in a directory", func(s *scene) { s.say(inoD, func(i *api.Inode) { i.Direct[0] = 0 }) }, []api.Finding{f(8, inoE), f(9, inoB, 219, 204), f(10, inoE, inoD, 2), f(11, 1)}, func(t *testing.T, s *scene) {
			wantSlots(t, s, inoD, "16 n14 5 1", "17 n15 5 1", "18 n16 5 1", "19 n17 5 1")
		}},
	})
}

// 14.2, 'Pieces': the blocks that the root and lost+found always have.
func TestPiecesKept(t *testing.T) {
	root := func(s *scene) int { return s.l.Root }
	l := []trial{
		{"the root says another block", func(s *scene) { s.say(1, func(i *api.Inode) { i.Direct[0] = s.free(0) }) }, nil, nil},
		{"the root says no block", func(s *scene) { s.say(1, func(i *api.Inode) { i.Direct[0] = 0 }) }, nil, nil},
		{"the root says what a file has", func(s *scene) { s.say(1, func(i *api.Inode) { i.Direct[0] = s.at(inoA, 0) }) }, nil, has(indicesOfA...)},
		{"lost+found says other blocks", func(s *scene) { s.say(2, func(i *api.Inode) { i.Direct[0], i.Direct[1] = 50, 0 }) }, nil, nil},
		{"lost+found says more", func(s *scene) { s.say(2, func(i *api.Inode) { i.Direct[2], i.Single, i.Double = 51, 59, 64 }) }, nil, has(indicesOfA...)},
		{"the root has a block more", func(s *scene) {
			s.put(90, 6, 1, 1, 1, 1, pageText(s.t, []api.Entry{{Name: "y", Ino: inoA, Gen: 1}}))
			s.say(1, func(i *api.Inode) { i.Size, i.Direct[1] = 896, 90 })
		}, []api.Finding{f(9, inoA, 1, 2), f(11, 1)}, nil},
		{"the root has a block more, which is lost", func(s *scene) { s.say(1, func(i *api.Inode) { i.Size, i.Direct[1] = 896, 90 }) }, []api.Finding{f(5, 1, 1)}, nil},
		{"the root says its own block twice", func(s *scene) { s.say(1, func(i *api.Inode) { i.Size, i.Direct[1] = 896, 51 }) }, []api.Finding{f(5, 1, 1)}, nil},
		{"a file says the root's block", func(s *scene) { s.say(inoF, func(i *api.Inode) { i.Direct[0] = 51 }) }, []api.Finding{f(5, inoF, 0), f(11, 1)}, nil},
	}
	for name, change := range map[string]func(h *api.Head){
		"another kind":       func(h *api.Head) { h.Kind = 7 },
		"another inode":      func(h *api.Head) { h.Ino = 7 },
		"another generation": func(h *api.Head) { h.Gen = 0 },
		"another index":      func(h *api.Head) { h.Index = 2 },
	} {
		l = append(l, trial{"the root's block, " + name, func(s *scene) { s.head(root(s), change) }, orphansOfRoot(f(5, 1, 0)), nil})
		l = append(l, trial{"a block of lost+found, " + name, func(s *scene) { s.head(50, change) }, []api.Finding{f(5, 2, 1)}, nil})
	}
	for name, change := range map[string]func(r *api.Reading){
		"lost":             func(r *api.Reading) { *r = api.Reading{} },
		"not Ok":           func(r *api.Reading) { r.Ok = false },
		"no slots":         func(r *api.Reading) { r.Body = filled(3, 448) },
		"fewer bytes":      func(r *api.Reading) { r.Body = r.Body[:447] },
		"more bytes":       func(r *api.Reading) { r.Body += "\x00" },
		"what is no entry": func(r *api.Reading) { r.Body = r.Body[:447] + "\x01" },
	} {
		l = append(l, trial{"the root's block, " + name, func(s *scene) { change(&s.x.Readings[51]) }, orphansOfRoot(f(5, 1, 0)), func(t *testing.T, s *scene) {
			wantSlots(t, s, 1, "0 lost+found 2 1")
			wantSlots(t, s, 2, "0 4 4 1", "1 9 9 1", "2 10 10 2", "3 3 3 1", "4 6 6 1")
		}})
		l = append(l, trial{"a block of lost+found, " + name, func(s *scene) { change(&s.x.Readings[49]) }, []api.Finding{f(5, 2, 0)}, nil})
		l = append(l, trial{"both of lost+found, " + name, func(s *scene) { change(&s.x.Readings[49]); change(&s.x.Readings[50]) }, []api.Finding{f(5, 2, 0), f(5, 2, 1)}, nil})
		// Of an inode that is lost nothing is told of its blocks.
		l = append(l, trial{"the root and its block, " + name, func(s *scene) { s.loseInode(1); change(&s.x.Readings[51]) }, orphansOfRoot(f(3, 1)), nil})
		more := []api.Finding{f(3, 2), f(7, 1, 0)}
		l = append(l, trial{"lost+found and a block, " + name, func(s *scene) { s.loseInode(2); change(&s.x.Readings[49]) }, more, nil})
	}
	tryAll(t, l)
}

// again is what is found of indices of /a that a torn table told.
func again(s *scene, indices ...int) []api.Finding {
	var l []api.Finding
	for _, index := range indices {
		l = append(l, f(6, inoA, index, s.at(inoA, index)))
	}
	return l
}

// 14.2, 'Torn tables': each table of /a, lost by each reason: it is there again, where it stood, with all that it told.
func TestTables(t *testing.T) {
	_, x := stored(t, vault.Ideal())
	s := newScene(t, x)
	var l []trial
	for _, c := range []struct {
		at, called, index int
		told              []int
	}{{singleOfA, 1, 0, []int{12, 13, 123}}, {firstOfA, 3, 1, []int{124, 125, 235}}, {secondOfA, 4, 2, []int{236}}, {lastOfA, 114, 112, []int{12667}}} {
		found := append(again(s, c.told...), f(4, inoA, c.called))
		add := func(name string, change func(s *scene), found []api.Finding, left ...int) {
			l = append(l, trial{name + ", the table at " + strconv.Itoa(c.at), change, found, has(left...)})
		}
		head := func(change func(h *api.Head)) func(s *scene) { return func(s *scene) { s.head(c.at, change) } }
		add("lost", func(s *scene) { s.lose(c.at) }, found, indicesOfA...)
		add("not Ok", func(s *scene) { s.x.Readings[c.at].Ok = false }, found, indicesOfA...)
		for _, kind := range []int{0, 5, 6, 7, 9} {
			add("another kind", head(func(h *api.Head) { h.Kind = kind }), found, indicesOfA...)
		}
		for _, ino := range []int{0, 4, 9} {
			add("another inode's", head(func(h *api.Head) { h.Ino = ino }), found, indicesOfA...)
		}
		for _, gen := range []int{0, 2} {
			add("another generation's", head(func(h *api.Head) { h.Gen = gen }), found, indicesOfA...)
		}
		for _, index := range []int{c.index + 1, c.index - 1, 12} {
			if index != c.index {
				add("another index's", head(func(h *api.Head) { h.Index = index }), found, indicesOfA...)
			}
		}
		point := func(s *scene, to int) {
			if c.at == singleOfA {
				s.say(inoA, func(i *api.Inode) { i.Single = to })
				return
			}
			s.point(doubleOfA, c.index-1, to)
		}
		gone := []api.Finding{f(4, inoA, c.called), f(11, 1)}
		for name, to := range map[string]int{"to a superblock": 0 + 1, "to the root": 51, "to a grid": 28, "beyond the living part": 160, "far beyond": 1<<32 - 1, "to what the inode has": s.at(inoA, 0), "to what a later one has": s.at(inoF, 0), "to the tables": doubleOfA} {
			add(name, func(s *scene) { point(s, to) }, gone, but(c.told...)...)
		}
		for name, to := range map[string]int{"to what is free": 74, "to where nothing stands": 159} {
			add(name, func(s *scene) { point(s, to) }, append(slices.Clone(found), f(11, 1)), indicesOfA...)
		}
		add("a table, below the data", func(s *scene) { point(s, 5); s.x.Readings[5] = x.Readings[c.at]; s.lose(c.at) }, gone, but(c.told...)...)
		add("no pointer", func(s *scene) { point(s, 0) }, []api.Finding{f(11, 1)}, but(c.told...)...)
		add("moved", func(s *scene) { point(s, 150); s.moved(c.at, 150) }, []api.Finding{f(11, 1)}, indicesOfA...)
		add("with all that it told", func(s *scene) {
			for _, index := range c.told {
				s.lose(newScene(t, x).at(inoA, index))
			}
			s.lose(c.at)
		}, gone, but(c.told...)...)
		for _, index := range c.told {
			if len(c.told) == 1 {
				continue
			}
			rest := slices.DeleteFunc(slices.Clone(c.told), func(k int) bool { return k == index })
			add("with one that it told", func(s *scene) { s.lose(c.at, newScene(t, x).at(inoA, index)) }, append(again(s, rest...), f(4, inoA, c.called), f(11, 1)), but(index)...)
		}
		// Of an index that it told, another block.
		first := c.told[0]
		was := x.Readings[s.at(inoA, first)]
		version := was.Head.Version
		other := func(at int) []api.Finding {
			return append(again(s, c.told[1:]...), f(4, inoA, c.called), f(6, inoA, first, at), f(11, 1))
		}
		put := func(s *scene, at, version int) { s.put(at, 7, inoA, 1, first, version, filled(version, 448)) }
		add("a piece of a greater Version", func(s *scene) { s.lose(c.at); put(s, 120, version+1) }, other(120), indicesOfA...)
		add("a piece of a lesser Version", func(s *scene) { s.lose(c.at); put(s, 120, version-1) }, found, indicesOfA...)
		add("a piece of the same Version", func(s *scene) { s.lose(c.at); put(s, 120, version) }, found, indicesOfA...)
		add("the greatest of several", func(s *scene) {
			s.lose(c.at)
			put(s, 120, version+1)
			put(s, 130, version+3)
			put(s, 140, version+2)
		}, other(130), indicesOfA...)
		add("the least of the same", func(s *scene) { s.lose(c.at); put(s, 140, version+3); put(s, 130, version+3); put(s, 135, version+3) }, other(130), indicesOfA...)
		add("the last address", func(s *scene) { s.lose(c.at); put(s, 159, version+1) }, other(159), indicesOfA...)
		add("one beyond", func(s *scene) { s.lose(c.at); s.put(120, 7, inoA, 1, firstOf(c.index)+112, 1, "") }, found, indicesOfA...)
		if first < 12667 {
			more := slices.Sorted(slices.Values(append(slices.Clone(indicesOfA), first+2)))
			add("one that was not told", func(s *scene) { s.lose(c.at); s.put(120, 7, inoA, 1, first+2, 1, "") }, append(slices.Clone(found), f(6, inoA, first+2, 120), f(11, 1)), more...)
		}
		for name, r := range map[string]api.Reading{"kind": reading(120, 6, inoA, 1, first, version+1, blank(448)), "inode": reading(120, 7, inoD, 1, first, version+1, ""), "generation": reading(120, 7, inoA, 2, first, version+1, "")} {
			add("a block of another "+name, func(s *scene) { s.lose(c.at); s.x.Readings[120] = r }, found, indicesOfA...)
		}
		add("a block that is not Ok", func(s *scene) {
			s.lose(c.at)
			put(s, 120, version+1)
			s.x.Readings[120].Ok = false
		}, found, indicesOfA...)
		add("a piece below the data", func(s *scene) { s.lose(c.at); put(s, 20, version+1) }, found, indicesOfA...)
	}
	for _, c := range l {
		try(t, x, c)
	}
}

// firstOf is the first index that a table tells, the inode's own at 0.
func firstOf(table int) int { return 12 + 112*table }

// 14.2, 'Pieces': tables that are lost are not there again, and nothing that they told.
func TestTablesOfTables(t *testing.T) {
	_, x := stored(t, vault.Ideal())
	found := []api.Finding{f(4, inoA, 2), f(11, 1)}
	left := []int{0, 1, 11, 12, 13, 123}
	var l []trial
	add := func(name string, change func(s *scene)) { l = append(l, trial{name, change, found, has(left...)}) }
	add("lost", func(s *scene) { s.lose(doubleOfA) })
	add("not Ok", func(s *scene) { s.x.Readings[doubleOfA].Ok = false })
	add("another kind", func(s *scene) { s.head(doubleOfA, func(h *api.Head) { h.Kind = 8 }) })
	add("another inode's", func(s *scene) { s.head(doubleOfA, func(h *api.Head) { h.Ino = 4 }) })
	add("another generation's", func(s *scene) { s.head(doubleOfA, func(h *api.Head) { h.Gen = 2 }) })
	add("another index's", func(s *scene) { s.head(doubleOfA, func(h *api.Head) { h.Index = 1 }) })
	for _, to := range []int{1, 27, 51, 160, 1<<32 - 1, 55, 59, 63, 74, 159} {
		add("another block, "+strconv.Itoa(to), func(s *scene) { s.say(inoA, func(i *api.Inode) { i.Double = to }) })
	}
	add("below the data", func(s *scene) {
		s.say(inoA, func(i *api.Inode) { i.Double = 5 })
		s.x.Readings[5] = x.Readings[doubleOfA]
	})
	l = append(l, trial{"no pointer", func(s *scene) { s.say(inoA, func(i *api.Inode) { i.Double = 0 }) }, []api.Finding{f(11, 1)}, has(left...)})
	l = append(l, trial{"moved", func(s *scene) {
		s.say(inoA, func(i *api.Inode) { i.Double = 150 })
		s.moved(doubleOfA, 150)
	}, []api.Finding{f(11, 1)}, has(indicesOfA...)})
	// They tell nothing any more: all goes.
	empty := func(s *scene) { s.x.Readings[doubleOfA].Body = blank(448) }
	l = append(l, trial{"they tell nothing", empty, []api.Finding{f(11, 1)}, has(left...)})
	l = append(l, trial{"they have no form", func(s *scene) { s.x.Readings[doubleOfA].Body = blank(447) }, []api.Finding{f(11, 1)}, has(left...)})
	l = append(l, trial{"a table has no form", func(s *scene) { s.x.Readings[singleOfA].Body = "" }, []api.Finding{f(11, 1)}, has(but(12, 13, 123)...)})
	l = append(l, trial{"their tables tell nothing", func(s *scene) {
		for _, at := range []int{firstOfA, secondOfA, lastOfA} {
			s.x.Readings[at].Body = blank(448)
		}
	}, []api.Finding{f(11, 1)}, has(left...)})
	l = append(l, trial{"all that they tell is lost", func(s *scene) {
		for _, index := range []int{124, 125, 235, 236, 12667} {
			s.lose(newScene(t, x).at(inoA, index))
		}
	}, []api.Finding{f(5, inoA, 124), f(5, inoA, 125), f(5, inoA, 235), f(5, inoA, 236), f(5, inoA, 12667), f(11, 1)}, func(t *testing.T, s *scene) {
		has(left...)(t, s)
		if i := s.inode(inoA); i.Double != 0 {
			t.Fatalf("/a: %+v", i)
		}
	}})
	l = append(l, trial{"exchanged", func(s *scene) { s.point(doubleOfA, 0, secondOfA); s.point(doubleOfA, 1, firstOfA) }, append(again(newScene(t, x), 124, 125, 235, 236), f(4, inoA, 3), f(4, inoA, 4)), func(t *testing.T, s *scene) {
		has(indicesOfA...)(t, s)
		if s.inner(inoA, 1) != secondOfA || s.inner(inoA, 2) != firstOfA {
			t.Fatalf("the tables' tables: %v", s.table(doubleOfA))
		}
	}})
	for _, c := range l {
		try(t, x, c)
	}
}

// 14.2, 'Torn tables': in the order in which they were found, each has its address and its pieces ahead of the next.
func TestTornOrder(t *testing.T) {
	_, x := stored(t, vault.Ideal())
	s := newScene(t, x)
	single := func(to int) func(s *scene) {
		return func(s *scene) { s.say(inoA, func(i *api.Inode) { i.Single = to }) }
	}
	data := func(s *scene, at, index int) {
		s.lose(at)
		s.put(at, 7, inoA, 1, index, 9999, filled(7, 448))
	}
	for _, c := range []trial{
		{"one address for two, the first has it", func(s *scene) { single(90)(s); s.point(doubleOfA, 0, 90) },
			append(again(s, 12, 13, 123), f(4, inoA, 1), f(4, inoA, 3), f(11, 1)), has(but(124, 125, 235)...)},
		{"one address for two, nothing is in the first", func(s *scene) {
			lost := []int{s.at(inoA, 12), s.at(inoA, 13), s.at(inoA, 123)}
			single(90)(s)
			s.point(doubleOfA, 0, 90)
			s.lose(lost...)
		}, append(again(s, 124, 125, 235), f(4, inoA, 1), f(4, inoA, 3), f(11, 1)), has(but(12, 13, 123)...)},
		{"one address for two inodes", func(s *scene) {
			single(90)(s)
			s.say(inoBig, func(i *api.Inode) { i.Single = 90 })
		}, append(again(s, 12, 13, 123), f(4, inoA, 1), f(4, inoBig, 1), f(9, inoB, 219, 211), f(11, 1)), has(indicesOfA...)},
		{"a piece where a later one stood", func(s *scene) { s.lose(singleOfA); data(s, firstOfA, 13) },
			append(again(s, 12, 123), f(4, inoA, 1), f(4, inoA, 3), f(6, inoA, 13, firstOfA), f(11, 1)), has(but(124, 125, 235)...)},
		{"a piece where one ahead stood", func(s *scene) { data(s, singleOfA, 124); s.lose(firstOfA) },
			append(again(s, 12, 13, 123, 124, 125, 235), f(4, inoA, 1), f(4, inoA, 3)), has(indicesOfA...)},
		{"a piece where it stood itself", func(s *scene) { data(s, singleOfA, 13) },
			append(again(s, 12, 13, 123), f(4, inoA, 1)), has(indicesOfA...)},
		{"a piece where it stood itself, and no other of that index", func(s *scene) { lost := s.at(inoA, 13); data(s, singleOfA, 13); s.lose(lost) },
			append(again(s, 12, 123), f(4, inoA, 1), f(11, 1)), has(but(13)...)},
		{"a piece where it stood itself, and nothing else", func(s *scene) {
			lost := []int{s.at(inoA, 12), s.at(inoA, 13), s.at(inoA, 123)}
			data(s, singleOfA, 13)
			s.lose(lost...)
		}, []api.Finding{f(4, inoA, 1), f(11, 1)}, has(but(12, 13, 123)...)},
		{"a piece where a table stood that nothing is in", func(s *scene) {
			lost := []int{s.at(inoA, 12), s.at(inoA, 13), s.at(inoA, 123)}
			data(s, singleOfA, 124)
			s.lose(lost...)
			s.lose(firstOfA)
		}, append(again(s, 125, 235), f(4, inoA, 1), f(4, inoA, 3), f(6, inoA, 124, singleOfA), f(11, 1)), has(but(12, 13, 123)...)},
		{"a directory's", func(s *scene) { s.lose(s.inner(inoBig, 0)) }, []api.Finding{f(4, inoBig, 1), f(6, inoBig, 12, s.at(inoBig, 12))}, nil},
		{"a directory's, whose block has no slots", func(s *scene) {
			s.x.Readings[s.at(inoBig, 12)].Body = filled(1, 448)
			s.lose(s.inner(inoBig, 0))
		}, []api.Finding{f(4, inoBig, 1), f(9, inoB, 219, 211), f(11, 1)}, nil},
		{"a directory's, and a file's block", func(s *scene) {
			s.put(100, 7, inoBig, 1, 12, 9999, blank(448))
			s.lose(s.inner(inoBig, 0))
		}, []api.Finding{f(4, inoBig, 1), f(6, inoBig, 12, s.at(inoBig, 12))}, nil},
		{"a directory's, and a later block", func(s *scene) {
			s.put(100, 6, inoBig, 1, 12, 9999, pageText(s.t, []api.Entry{{Name: "y", Ino: inoA, Gen: 1}}))
			s.lose(s.inner(inoBig, 0))
		}, []api.Finding{f(4, inoBig, 1), f(6, inoBig, 12, 100), f(9, inoA, 1, 2), f(9, inoB, 219, 211), f(11, 1)}, nil},
		{"an orphan block of an index of the inode's own", func(s *scene) {
			s.say(inoA, func(i *api.Inode) { i.Direct[0] = 0 })
		}, []api.Finding{f(11, 1)}, has(but(0)...)},
	} {
		try(t, x, c)
	}
}

// 14.2: paths that lead elsewhere, whole and not.
func TestPaths(t *testing.T) {
	gone := []api.Finding{f(12, inoS), f(7, 1, 3), f(11, 1), f(11, 2)}
	dropped := func(t *testing.T, s *scene) {
		t.Helper()
		if s.inode(inoS) != (api.Inode{}) || s.gen(inoS) != 1 {
			t.Fatalf("/s: %+v, of the generation %d", s.inode(inoS), s.gen(inoS))
		}
		for _, at := range survey.Judge(s.x).Used {
			if at >= s.l.Data && s.x.Readings[at].Head.Ino == inoS {
				t.Fatalf("somebody has %d", at)
			}
		}
	}
	path := func(s string, size int) func(s *scene) {
		return func(x *scene) {
			x.x.Readings[x.at(inoS, 0)].Body = s + blank(448-len(s))
			x.say(inoS, func(i *api.Inode) { i.Size = size })
		}
	}
	long := ""
	for range 25 {
		long += "/" + "nnnnnnnnn"
	}
	more := func(s *scene, table bool) {
		s.put(91, 7, inoS, 1, 12, 5, "x")
		s.put(92, 7, inoS, 1, 124, 5, "x")
		l := make([]int, 112)
		l[0] = 91
		if table {
			s.put(90, 8, inoS, 1, 0, 5, tableText(s.t, l))
		}
		l[0] = 92
		s.put(93, 8, inoS, 1, 1, 5, tableText(s.t, l))
		l[0] = 93
		s.put(94, 9, inoS, 1, 0, 5, tableText(s.t, l))
		s.say(inoS, func(i *api.Inode) { i.Size, i.Single, i.Double = 125*448, 90, 94 })
	}
	l := []trial{
		{"its block is lost", func(s *scene) { s.lose(s.at(inoS, 0)) }, append(slices.Clone(gone), f(5, inoS, 0)), dropped},
		{"its block is another inode's", func(s *scene) { s.head(s.at(inoS, 0), func(h *api.Head) { h.Ino = 8 }) }, append(slices.Clone(gone), f(5, inoS, 0)), dropped},
		{"it says no block", func(s *scene) { s.say(inoS, func(i *api.Inode) { i.Direct[0] = 0 }) }, gone, dropped},
		{"no size", func(s *scene) { s.say(inoS, func(i *api.Inode) { i.Size = 0 }) }, gone, dropped},
		{"the root", func(s *scene) { s.say(inoS, func(i *api.Inode) { i.Size = 1 }) }, nil, nil},
		{"a part that is a path", func(s *scene) { s.say(inoS, func(i *api.Inode) { i.Size = 2 }) }, nil, nil},
		{"a part that is none", func(s *scene) { s.say(inoS, func(i *api.Inode) { i.Size = 3 }) }, gone, dropped},
		{"a byte more", func(s *scene) { s.say(inoS, func(i *api.Inode) { i.Size = 5 }) }, gone, dropped},
		{"no path", path("x", 1), gone, dropped},
		{"no path, points", path("/..", 3), gone, dropped},
		{"a name that is too long", path("/aaaaaaaaaaaaaaaaaaaa", 21), gone, dropped},
		{"a name of nineteen bytes", path("/aaaaaaaaaaaaaaaaaaa", 20), nil, nil},
		{"bytes behind", path("/nowhere at all", 8), nil, nil},
		{"255 bytes", path(long+"/nnnn", 255), nil, nil},
		{"256 bytes", path(long+"/nnnnn", 256), gone, dropped},
		{"a size of 448", path(long+"/nnnn", 448), gone, dropped},
		{"fewer bytes than the size", func(s *scene) { s.x.Readings[s.at(inoS, 0)].Body = "/d" }, gone, dropped},
		{"two blocks", func(s *scene) {
			s.put(91, 7, inoS, 1, 1, 5, "x")
			s.say(inoS, func(i *api.Inode) { i.Size, i.Direct[1] = 450, 91 })
		}, gone, dropped},
		{"tables", func(s *scene) { more(s, true) }, gone, dropped},
		{"a torn table", func(s *scene) { more(s, false) }, append(slices.Clone(gone), f(4, inoS, 1), f(6, inoS, 12, 91)), dropped},
		// A path that leads nowhere is one, too.
		{"a path that leads nowhere", path("/nowhere", 8), nil, nil},
		{"a file that is a path's bytes no more", func(s *scene) { s.say(inoS, func(i *api.Inode) { i.Kind, i.Size = 1, 3 }) }, nil, nil},
		{"a directory that becomes one", func(s *scene) { s.say(inoX, func(i *api.Inode) { i.Kind, i.Parent = 3, 0 }) }, []api.Finding{f(12, inoX), f(7, 1, 5), f(11, 2)}, nil},
	}
	tryAll(t, l)
}
