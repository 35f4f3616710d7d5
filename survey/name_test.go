package survey_test

import (
	"slices"
	"strconv"
	"testing"

	"grapnel/api"
	"grapnel/survey"
	"grapnel/vault"
)

// entry is a name of an inode of the generation 1.
func entry(name string, ino int) api.Entry { return api.Entry{Name: name, Ino: ino, Gen: 1} }

// 14.2, 'Names': slots of the root that may not be, or that lead nowhere.
func TestNames(t *testing.T) {
	wrong := []api.Finding{f(7, 1, 6)}
	var l []trial
	for name, x := range map[string]api.Entry{
		"no inode":                        {Name: "y", Ino: 0, Gen: 1},
		"no inode, a generation 0":        {Name: "y"},
		"an inode beyond":                 entry("y", 21),
		"an inode far beyond":             {Name: "y", Ino: 1<<32 - 1, Gen: 1<<32 - 1},
		"a free inode":                    {Name: "y", Ino: 12},
		"a free inode of a generation":    entry("y", inoGone),
		"another generation":              {Name: "y", Ino: inoA, Gen: 2},
		"another generation, 0":           {Name: "y", Ino: inoA},
		"a generation that was":           entry("y", inoX),
		"the root":                        entry("y", 1),
		"lost+found":                      entry("y", 2),
		"a directory that has a place":    entry("y", inoD),
		"a directory that is to have one": entry("y", inoE),
		"a slash":                         entry("y/z", inoA),
		"a point":                         entry(".", inoA),
		"two points":                      entry("..", inoA),
		"a blank":                         entry("y z", inoA),
		"a byte 0":                        entry("y\x00", inoA),
		"a name that is there":            entry("a", inoA),
		"lost+found's name":               entry("lost+found", inoA),
		"lost+found once more":            entry("lost+found", 2),
	} {
		found := wrong
		if x.Ino == inoE {
			// The root's slots come ahead of /d's.
			found = []api.Finding{f(7, inoD, 1), f(10, inoE, inoD, 1)}
		}
		l = append(l, trial{name, func(s *scene) { s.slot(51, 6, x) }, found, func(t *testing.T, s *scene) {
			if is := s.slots(1)[6]; len(found) == 1 && is != (api.Entry{}) {
				t.Fatalf("the slot: %v", is)
			}
		}})
	}
	l = append(l,
		trial{"another name of a file", func(s *scene) { s.slot(51, 6, entry("y", inoA)) }, []api.Finding{f(9, inoA, 1, 2)}, nil},
		trial{"another name of a path", func(s *scene) { s.slot(51, 6, entry("y", inoS)) }, []api.Finding{f(9, inoS, 1, 2)}, nil},
		trial{"the last slot", func(s *scene) { s.slot(51, 15, entry("a", inoA)) }, []api.Finding{f(7, 1, 15)}, nil},
		trial{"all of it", func(s *scene) {
			for i := range 10 {
				s.slot(51, 6+i, entry("..", inoA))
			}
		}, []api.Finding{f(7, 1, 6), f(7, 1, 7), f(7, 1, 8), f(7, 1, 9), f(7, 1, 10), f(7, 1, 11), f(7, 1, 12), f(7, 1, 13), f(7, 1, 14), f(7, 1, 15)}, nil},
		// A name that is wrong keeps nothing its place, nor its name from others behind it: they are asked as they stood.
		trial{"a wrong name of a directory ahead", func(s *scene) { s.slot(51, 1, entry("d/", inoD)) }, []api.Finding{f(7, 1, 1), f(8, inoA)}, func(t *testing.T, s *scene) {
			wantSlots(t, s, 2, "0 3 3 1")
			wantSlots(t, s, 1, "0 lost+found 2 1", "2 d 4 1", "3 s 6 1", "4 big 9 1", "5 x 10 2")
		}},
		trial{"a name that leads nowhere, and the same one that does", func(s *scene) { s.slot(51, 1, entry("a", 12)); s.slot(51, 6, entry("a", inoA)) }, []api.Finding{f(7, 1, 1), f(7, 1, 6), f(8, inoA)}, nil},
		trial{"one that does, and one that leads nowhere", func(s *scene) { s.slot(51, 6, entry("a", 12)) }, wrong, nil},
		trial{"a slot of /d, in its second block", func(s *scene) { s.slot(s.at(inoD, 1), 1, entry("n0", inoB)) }, []api.Finding{f(7, inoD, 17), f(9, inoB, 219, 218)}, nil},
		trial{"a slot behind a hole", func(s *scene) {
			s.slot(s.at(inoD, 1), 1, entry("..", inoB))
			s.say(inoD, func(i *api.Inode) { i.Direct[0] = 0 })
		}, []api.Finding{f(7, inoD, 17), f(8, inoE), f(9, inoB, 219, 203), f(10, inoE, inoD, 2), f(11, 1)}, nil},
		trial{"a slot behind a block that is lost", func(s *scene) {
			s.slot(s.at(inoD, 1), 3, entry("..", inoB))
			s.lose(s.at(inoD, 0))
		}, []api.Finding{f(5, inoD, 0), f(7, inoD, 19), f(8, inoE), f(9, inoB, 219, 203), f(10, inoE, inoD, 2), f(11, 1)}, nil},
		trial{"a name twice, on both sides of a hole", func(s *scene) {
			s.say(inoBig, func(i *api.Inode) { i.Direct[5] = 0 })
			s.slot(s.at(inoBig, 6), 0, entry("n0", inoB))
		}, []api.Finding{f(7, inoBig, 96), f(9, inoB, 219, 202), f(11, 1)}, nil},
	)
	tryAll(t, l)
}

// 14.2, 'Names': the root's first slot is lost+found's.
func TestFirstSlot(t *testing.T) {
	wrong := []api.Finding{f(7, 1, 0)}
	var l []trial
	for name, c := range map[string]struct {
		x     api.Entry
		found []api.Finding
	}{
		"free":                 {api.Entry{}, nil},
		"another name":         {entry("lost", 2), wrong},
		"another inode":        {entry("lost+found", inoA), wrong},
		"another directory":    {entry("lost+found", inoD), wrong},
		"the root":             {entry("lost+found", 1), wrong},
		"another generation":   {api.Entry{Name: "lost+found", Ino: 2, Gen: 2}, wrong},
		"no generation":        {api.Entry{Name: "lost+found", Ino: 2}, wrong},
		"a name of its own":    {entry("a2", inoA), wrong},
		"a name that is none":  {entry("/", inoA), wrong},
		"a name that is there": {entry("a", inoA), wrong},
	} {
		l = append(l, trial{name, func(s *scene) { s.slot(51, 0, c.x) }, c.found, func(t *testing.T, s *scene) {
			wantSlots(t, s, 1, "0 lost+found 2 1", "1 a 3 1", "2 d 4 1", "3 s 6 1", "4 big 9 1", "5 x 10 2")
		}})
	}
	l = append(l, trial{"free, and lost+found elsewhere", func(s *scene) { s.slot(51, 0, api.Entry{}); s.slot(51, 6, entry("lost+found", 2)) }, []api.Finding{f(7, 1, 6)}, nil})
	l = append(l, trial{"a file's only name", func(s *scene) { s.slot(51, 0, entry("a", inoA)); s.slot(51, 1, api.Entry{}) }, []api.Finding{f(7, 1, 0), f(8, inoA)}, nil})
	l = append(l, trial{"another generation, which it has", func(s *scene) {
		s.slot(51, 0, api.Entry{Name: "lost+found", Ino: 2, Gen: 5})
		s.head(s.nodeAt(2), func(h *api.Head) { h.Gen = 5 })
		s.head(49, func(h *api.Head) { h.Gen = 5 })
		s.head(50, func(h *api.Head) { h.Gen = 5 })
	}, nil, nil})
	tryAll(t, l)
}

// 14.2, 'Names': directories wait in a row: the root, lost+found, then each as it is named. A directory has its place where it is named first.
func TestPlaces(t *testing.T) {
	up := func(s *scene, ino, slot, to int) { s.slot(s.at(ino, slot/16), slot%16, entry("y", to)) }
	free := func(s *scene, slots ...int) {
		for _, i := range slots {
			s.slot(51, i, api.Entry{})
		}
	}
	tryAll(t, []trial{
		{"the root ahead of lost+found", func(s *scene) { s.slot(49, 0, entry("4", inoD)) }, []api.Finding{f(7, 2, 0)}, nil},
		{"lost+found ahead of those that are named", func(s *scene) { s.slot(50, 3, entry("7", inoE)) }, []api.Finding{f(7, inoD, 1), f(10, inoE, inoD, 2)}, func(t *testing.T, s *scene) {
			wantSlots(t, s, 2, "19 7 7 1")
		}},
		{"the first of two that are named", func(s *scene) { up(s, inoBig, 3, inoE) }, []api.Finding{f(7, inoBig, 3), f(9, inoB, 219, 218)}, nil},
		{"the second of two, the first being named later", func(s *scene) {
			s.slot(51, 2, entry("big", inoBig))
			s.slot(51, 4, entry("d", inoD))
			up(s, inoBig, 3, inoE)
		}, []api.Finding{f(7, inoD, 1), f(9, inoB, 219, 218), f(10, inoE, inoD, inoBig)}, nil},
		{"twice in one", func(s *scene) { up(s, inoD, 2, inoE) }, []api.Finding{f(7, inoD, 2), f(9, inoB, 219, 218)}, nil},
		{"in itself", func(s *scene) { up(s, inoE, 4, inoE) }, []api.Finding{f(7, inoE, 4)}, nil},
		{"what is above it", func(s *scene) { up(s, inoE, 4, inoD) }, []api.Finding{f(7, inoE, 4)}, nil},
		{"nearer to the root than in depth", func(s *scene) {
			// /x leads to /y, which is in /d/e, too: /x waits ahead of /d/e.
			s.put(90, 6, inoX, 2, 0, 1, pageText(s.t, []api.Entry{entry("y", inoBig)}))
			s.say(inoX, func(i *api.Inode) { i.Size, i.Direct[0] = 448, 90 })
			free(s, 4)
			up(s, inoE, 5, inoBig)
		}, []api.Finding{f(7, inoE, 5), f(10, inoBig, 1, inoX), f(11, 1)}, nil},
		{"of two names in lost+found, the number's is nothing else", func(s *scene) { s.slot(49, 2, entry("9", inoA)) }, []api.Finding{f(9, inoA, 1, 2)}, nil},
	})
}

// 14.2, 'Orphans': directories first, those ahead to which no other one leads; then all else, rising.
func TestOrphans(t *testing.T) {
	free := func(s *scene, slots ...int) {
		for _, i := range slots {
			s.slot(51, i, api.Entry{})
		}
	}
	big := func(s *scene, x api.Entry) { s.slot(s.at(inoBig, 0), 0, x) }
	tryAll(t, []trial{
		{"a file", func(s *scene) { free(s, 1) }, []api.Finding{f(8, inoA)}, func(t *testing.T, s *scene) { wantSlots(t, s, 2, "0 3 3 1") }},
		{"a path", func(s *scene) { free(s, 3) }, []api.Finding{f(8, inoS)}, func(t *testing.T, s *scene) { wantSlots(t, s, 2, "0 6 6 1") }},
		{"an empty directory of a generation", func(s *scene) { free(s, 5) }, []api.Finding{f(8, inoX), f(10, inoX, 1, 2)}, func(t *testing.T, s *scene) { wantSlots(t, s, 2, "0 10 10 2") }},
		{"a directory, and what is in it", func(s *scene) { free(s, 2) }, []api.Finding{f(8, inoD), f(10, inoD, 1, 2)}, func(t *testing.T, s *scene) { wantSlots(t, s, 2, "0 4 4 1") }},
		{"all", func(s *scene) { free(s, 1, 2, 3, 4, 5) }, orphansOfRoot(), func(t *testing.T, s *scene) {
			wantSlots(t, s, 2, "0 4 4 1", "1 9 9 1", "2 10 10 2", "3 3 3 1", "4 6 6 1")
		}},
		{"a file that an orphan names", func(s *scene) { free(s, 2, 4) }, []api.Finding{f(8, inoD), f(8, inoBig), f(10, inoD, 1, 2), f(10, inoBig, 1, 2)}, nil},
		{"one that a greater one leads to", func(s *scene) { free(s, 2, 4); big(s, entry("d", inoD)) }, []api.Finding{f(8, inoBig), f(9, inoB, 219, 218), f(10, inoBig, 1, 2), f(10, inoD, 1, inoBig)}, func(t *testing.T, s *scene) {
			wantSlots(t, s, 2, "0 9 9 1")
		}},
		{"one that a greater one leads to, of another generation", func(s *scene) { free(s, 2, 4); big(s, api.Entry{Name: "d", Ino: inoD, Gen: 2}) }, []api.Finding{f(7, inoBig, 0), f(8, inoD), f(8, inoBig), f(9, inoB, 219, 218), f(10, inoBig, 1, 2), f(10, inoD, 1, 2)}, func(t *testing.T, s *scene) {
			wantSlots(t, s, 2, "0 4 4 1", "1 9 9 1")
		}},
		{"one that a greater one leads to by a name that may not be", func(s *scene) { free(s, 2, 4); big(s, entry("d/", inoD)) }, []api.Finding{f(7, inoBig, 0), f(8, inoD), f(8, inoBig), f(9, inoB, 219, 218), f(10, inoBig, 1, 2), f(10, inoD, 1, 2)}, func(t *testing.T, s *scene) {
			wantSlots(t, s, 2, "0 9 9 1", "1 4 4 1")
		}},
		{"one that leads to itself", func(s *scene) { free(s, 4); big(s, entry("big", inoBig)) }, []api.Finding{f(7, inoBig, 0), f(8, inoBig), f(9, inoB, 219, 218), f(10, inoBig, 1, 2)}, nil},
		{"one that leads to itself, and a lesser one that it leads to", func(s *scene) {
			free(s, 2, 4)
			big(s, entry("big", inoBig))
			s.slot(s.at(inoBig, 0), 1, entry("d", inoD))
		}, []api.Finding{f(7, inoBig, 0), f(8, inoBig), f(9, inoB, 219, 217), f(10, inoBig, 1, 2), f(10, inoD, 1, inoBig)}, nil},
		{"a ring of two", func(s *scene) { free(s, 2); s.slot(s.at(inoE, 0), 1, entry("up", inoD)) }, []api.Finding{f(7, inoE, 1), f(8, inoD), f(10, inoD, 1, 2)}, nil},
		{"a ring of three", func(s *scene) {
			free(s, 2, 4)
			s.slot(s.at(inoE, 0), 1, entry("big", inoBig))
			big(s, entry("d", inoD))
		}, []api.Finding{f(7, inoBig, 0), f(8, inoD), f(9, inoB, 219, 218), f(10, inoD, 1, 2), f(10, inoBig, 1, inoE)}, func(t *testing.T, s *scene) {
			wantSlots(t, s, 2, "0 4 4 1")
		}},
		{"a ring, and a lesser one that hangs from it", func(s *scene) {
			// /d/e and /big lead to each other, /big to /d; /d leads to nothing.
			free(s, 2, 4)
			s.slot(s.at(inoD, 0), 1, api.Entry{})
			s.slot(s.at(inoE, 0), 1, entry("big", inoBig))
			big(s, entry("e", inoE))
			s.slot(s.at(inoBig, 0), 1, entry("d", inoD))
		}, []api.Finding{f(7, inoBig, 1), f(7, inoBig, 0), f(8, inoD), f(8, inoE), f(9, inoB, 219, 217), f(10, inoD, 1, 2), f(10, inoE, inoD, 2), f(10, inoBig, 1, inoE)}, func(t *testing.T, s *scene) {
			wantSlots(t, s, 2, "0 4 4 1", "1 7 7 1")
		}},
		{"a ring, and one that leads into it", func(s *scene) {
			// /x leads to /d/e, which is in a ring with /big.
			free(s, 4, 5)
			s.slot(s.at(inoD, 0), 1, api.Entry{})
			s.slot(s.at(inoE, 0), 1, entry("big", inoBig))
			big(s, entry("e", inoE))
			s.put(90, 6, inoX, 2, 0, 1, pageText(s.t, []api.Entry{entry("e", inoE)}))
			s.say(inoX, func(i *api.Inode) { i.Size, i.Direct[0] = 448, 90 })
		}, []api.Finding{f(7, inoBig, 0), f(8, inoX), f(9, inoB, 219, 218), f(10, inoX, 1, 2), f(10, inoE, inoD, inoX), f(10, inoBig, 1, inoE), f(11, 1)}, nil},
		{"two rings", func(s *scene) {
			// /d and /d/e, /big and /x lead to each other.
			free(s, 2, 4, 5)
			s.slot(s.at(inoE, 0), 1, entry("d", inoD))
			big(s, api.Entry{Name: "x", Ino: inoX, Gen: 2})
			s.put(90, 6, inoX, 2, 0, 1, pageText(s.t, []api.Entry{entry("big", inoBig)}))
			s.say(inoX, func(i *api.Inode) { i.Size, i.Direct[0] = 448, 90 })
		}, []api.Finding{f(7, inoE, 1), f(7, inoX, 0), f(8, inoD), f(8, inoBig), f(9, inoB, 219, 218), f(10, inoD, 1, 2), f(10, inoBig, 1, 2), f(10, inoX, 1, inoBig), f(11, 1)}, nil},
		{"lost+found leads to one already", func(s *scene) { free(s, 1, 3); s.slot(49, 0, entry("6", inoS)) }, []api.Finding{f(8, inoA)}, func(t *testing.T, s *scene) {
			wantSlots(t, s, 2, "0 6 6 1", "1 3 3 1")
		}},
		{"a slot that comes to be free", func(s *scene) {
			free(s, 1, 3)
			s.slot(49, 0, entry("12", 12))
			s.slot(49, 1, entry("b", inoB))
			s.slot(50, 9, entry("c", inoB))
		}, []api.Finding{f(7, 2, 0), f(8, inoA), f(8, inoS), f(9, inoB, 219, 221)}, func(t *testing.T, s *scene) {
			wantSlots(t, s, 2, "0 3 3 1", "1 b 5 1", "2 6 6 1", "25 c 5 1")
		}},
		{"one slot is left, in the last place", func(s *scene) {
			free(s, 5)
			for i := range 31 {
				s.slot(49+i/16, i%16, entry("m"+strconv.Itoa(i), inoB))
			}
		}, []api.Finding{f(8, inoX), f(9, inoB, 219, 250), f(10, inoX, 1, 2)}, func(t *testing.T, s *scene) {
			if x := s.slots(2)[31]; x != (api.Entry{Name: "10", Ino: inoX, Gen: 2}) {
				t.Fatalf("the last slot: %v", x)
			}
		}},
		{"a name of lost+found's own block that is lost", func(s *scene) { s.slot(50, 0, entry("3", inoA)); free(s, 1); s.lose(50) }, []api.Finding{f(5, 2, 1), f(8, inoA)}, nil},
	})
}

// 14.2, 'Adopted': lost+found is full: what has no name is told, and counts as named; a directory's place is lost+found all the same.
func TestOrphansFull(t *testing.T) {
	_, x := stored(t, vault.Ideal())
	for _, room := range []int{0, 1} {
		s := newScene(t, x)
		for i := range 32 - room {
			s.slot(49+i/16, i%16, entry("m"+strconv.Itoa(i), inoB))
		}
		for _, i := range []int{1, 3, 5} {
			s.slot(51, i, api.Entry{})
		}
		s.say(inoS, func(i *api.Inode) { i.Links = 2 })
		c := judged(t, "lost+found is full", s.x)
		same(t, "lost+found is full", c.Findings, []api.Finding{f(8, inoA), f(8, inoS), f(8, inoX), f(9, inoB, 219, 251-room), f(9, inoS, 2, 1), f(10, inoX, 1, 2)})
		y := newScene(t, behind(s.x, c))
		if a, p, d := y.inode(inoA), y.inode(inoS), y.inode(inoX); a.Links != 1 || p.Links != 1 || d.Links != 1 || d.Parent != 2 {
			t.Fatalf("lost+found is full: %+v, %+v, %+v", a, p, d)
		}
		must := entry("m31", inoB)
		if room > 0 {
			must = api.Entry{Name: "10", Ino: inoX, Gen: 2}
		}
		if last := y.slots(2)[31]; last != must {
			t.Fatalf("lost+found is full: the last slot %v; want %v", last, must)
		}
	}
}

// 14.2, 'Links and parents': what an authentic inode says otherwise.
func TestLinks(t *testing.T) {
	var l []trial
	links := map[int]int{1: 1, 2: 1, inoA: 1, inoD: 1, inoB: 219, inoS: 1, inoE: 1, inoF: 1, inoBig: 1, inoX: 1}
	parents := map[int]int{1: 1, 2: 1, inoD: 1, inoE: inoD, inoBig: 1, inoX: 1}
	for ino, must := range links {
		for _, n := range []int{0, 1, 2, 218, 219, 220, 1000, 1<<32 - 1} {
			if n != must {
				l = append(l, trial{"links", func(s *scene) { s.say(ino, func(i *api.Inode) { i.Links = n }) }, []api.Finding{f(9, ino, n, must)}, nil})
			}
			parent := parents[ino]
			if n != parent {
				l = append(l, trial{"a parent", func(s *scene) { s.say(ino, func(i *api.Inode) { i.Parent = n }) }, []api.Finding{f(10, ino, n, parent)}, nil})
			}
		}
		l = append(l, trial{"both", func(s *scene) { s.say(ino, func(i *api.Inode) { i.Links, i.Parent = 7, 7 }) }, []api.Finding{f(9, ino, 7, must), f(10, ino, 7, parents[ino])}, nil})
	}
	tryAll(t, l)
}

// 14.2, 'Grids': used are the blocks that are had, and the inodes that are not free.
func TestGrids(t *testing.T) {
	_, x := stored(t, vault.Ideal())
	var l []trial
	for k, n := range []int{160, 20} {
		at, found := 27+k, []api.Finding{f(11, 1+k)}
		add := func(name string, change func(r *api.Reading)) {
			l = append(l, trial{name + ", the grid at " + strconv.Itoa(at), func(s *scene) { change(&s.x.Readings[at]) }, found, func(t *testing.T, s *scene) {
				if s.x.Readings[at].Body != x.Readings[at].Body {
					t.Fatalf("the grid at %d: %x", at, s.x.Readings[at].Body)
				}
			}})
		}
		bit := func(body string, i int) string {
			b := []byte(body)
			b[i/8] ^= 1 << (i % 8)
			return string(b)
		}
		for i := range n + 3 {
			add("the bit "+strconv.Itoa(i), func(r *api.Reading) { r.Body = bit(r.Body, i) })
		}
		add("the last bit", func(r *api.Reading) { r.Body = bit(r.Body, 3583) })
		add("lost", func(r *api.Reading) { *r = api.Reading{} })
		add("not Ok", func(r *api.Reading) { r.Ok = false })
		add("all", func(r *api.Reading) { r.Body = filled(3, 448) })
		add("nothing", func(r *api.Reading) { r.Body = blank(448) })
		add("no bytes", func(r *api.Reading) { r.Body = "" })
		for _, kind := range []int{0, 3 + 1 - k, 5} {
			add("another kind", func(r *api.Reading) { r.Head.Kind = kind })
		}
		add("an inode", func(r *api.Reading) { r.Head.Ino = 1 })
		add("a generation", func(r *api.Reading) { r.Head.Gen = 1 })
		add("an index", func(r *api.Reading) { r.Head.Index = 1 })
	}
	for _, c := range l {
		try(t, x, c)
	}
	s := newScene(t, x)
	var used []int
	for at, r := range x.Readings {
		if at < 52 || r.Ok && r.Head.Ino != inoGone {
			used = append(used, at)
		}
	}
	same(t, "Used", judged(t, "Used", s.x).Used, used)
	same(t, "the grid of blocks", x.Readings[27].Body, gridText(t, 160, used...))
	same(t, "the grid of inodes", x.Readings[28].Body, gridText(t, 20, upTo(0, 10)...))
}

// 'Wanted': of each block that is used, if its address is one of those that the journal's blocks must be laid to; of none that is not.
func TestStale(t *testing.T) {
	_, x := stored(t, vault.Ideal())
	used := survey.Judge(x).Used
	wantedAt := func(stale ...int) []int {
		t.Helper()
		y := copied(x)
		y.Stale = stale
		c := judged(t, "Stale", y)
		if len(c.Findings) != 0 {
			t.Fatalf("Stale %v: findings %v", stale, c.Findings)
		}
		var l []int
		for _, w := range c.Wants {
			l = append(l, w.Address)
			r := x.Readings[w.Address]
			if w != (api.Want{Address: w.Address, Kind: r.Head.Kind, Ino: r.Head.Ino, Gen: r.Head.Gen, Index: r.Head.Index, Body: r.Body}) {
				t.Fatalf("Stale %v: wanted %s", stale, brief(w))
			}
		}
		return l
	}
	var all []int
	for at := range 160 {
		must := []int{at}
		if at < 27 || !slices.Contains(used, at) {
			must = nil
		} else {
			all = append(all, at)
		}
		same(t, "Stale", wantedAt(at), must)
	}
	same(t, "all are stale", wantedAt(upTo(0, 160)...), all)
	same(t, "in another order, twice, and beyond", wantedAt(70, -1, 160, 27, 70, 1<<40, 55, 90), []int{27, 55, 70})
	// What is no reading of that block any more is wanted once.
	s := newScene(t, x)
	s.lose(28)
	s.x.Stale = []int{28, 28}
	if c := judged(t, "Stale and lost", s.x); len(c.Wants) != 1 || c.Wants[0].Address != 28 {
		t.Fatalf("Stale and lost: wanted %s", brief(c.Wants))
	}
}

// 'Wanted': at rising addresses, each with all that it must be.
func TestWants(t *testing.T) {
	_, x := stored(t, vault.Ideal())
	s := newScene(t, x)
	// Of each kind one.
	s.lose(27, 28, 49, 51, singleOfA, lastOfA, s.nodeAt(12))
	s.point(doubleOfA, 5, 150)
	s.slot(s.at(inoD, 0), 5, entry("..", 5))
	c := judged(t, "of each kind", s.x)
	var l []int
	for _, w := range c.Wants {
		l = append(l, w.Address)
	}
	same(t, "wanted", l, []int{27, 28, 32, 33, 37, 38, 40, 49, 51, 52, singleOfA, doubleOfA, lastOfA})
	for _, w := range c.Wants {
		r := x.Readings[w.Address]
		if at := w.Address; at == singleOfA || at == lastOfA || at == 12+28 {
			must := api.Want{Address: at, Kind: r.Head.Kind, Ino: r.Head.Ino, Gen: r.Head.Gen, Index: r.Head.Index, Body: r.Body}
			if at == 12+28 {
				// It was never taken: its generation is behind 0 then.
				must.Gen = 1
			}
			if w != must {
				t.Fatalf("wanted %s; it was %s", brief(w), brief(r))
			}
		}
	}
	// Lists that are handed out are the asker's own.
	d := survey.Judge(s.x)
	for i := range c.Wants {
		c.Wants[i] = api.Want{}
	}
	clear(c.Findings)
	clear(c.Used)
	_ = append(c.Used[:0], 9, 9, 9)
	same(t, "once more", survey.Judge(s.x), d)
}

// R3: what is wanted shares no memory with the evidence.
func TestWantsOwn(t *testing.T) {
	_, x := stored(t, vault.Ideal())
	s := newScene(t, x)
	s.x.Stale = upTo(0, 160)
	s.slot(51, 1, api.Entry{})
	was := copied(s.x)
	for _, w := range survey.Judge(s.x).Wants {
		for _, r := range s.x.Readings {
			if shares(w.Body, r.Body) {
				t.Fatalf("what is wanted at %d is a piece of what was handed in", w.Address)
			}
		}
	}
	same(t, "what was handed in", s.x, was)
}
