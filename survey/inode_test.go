package survey_test

import (
	"math"
	"slices"
	"strconv"
	"testing"

	"grapnel/api"
	"grapnel/block"
	"grapnel/survey"
	"grapnel/vault"
)

// namesOfB is a finding of each name of /d/b in /d and in /big.
func namesOfB() []api.Finding {
	l := []api.Finding{f(7, inoD, 0)}
	for i := range 18 {
		l = append(l, f(7, inoD, 2+i))
	}
	for i := range 200 {
		l = append(l, f(7, inoBig, i))
	}
	return l
}

// orphansOfRoot is what is found where all of the root's names are lost.
func orphansOfRoot(more ...api.Finding) []api.Finding {
	return append(more, f(8, inoA), f(8, inoD), f(8, inoS), f(8, inoBig), f(8, inoX), f(10, inoD, 1, 2), f(10, inoBig, 1, 2), f(10, inoX, 1, 2))
}

// lostNodes is what is found, and of which generation an inode is then, where nothing stands at it.
func lostNodes() map[int][]api.Finding {
	return map[int][]api.Finding{
		1:       orphansOfRoot(f(3, 1)),
		2:       {f(3, 2), f(7, 1, 0)},
		inoA:    {f(3, inoA), f(7, 1, 1), f(11, 1), f(11, 2)},
		inoD:    {f(3, inoD), f(7, 1, 2), f(8, inoE), f(9, inoB, 219, 200), f(10, inoE, inoD, 2), f(11, 1), f(11, 2)},
		inoB:    append(namesOfB(), f(3, inoB), f(11, 1), f(11, 2)),
		inoS:    {f(3, inoS), f(7, 1, 3), f(11, 1), f(11, 2)},
		inoE:    {f(3, inoE), f(7, inoD, 1), f(8, inoF), f(11, 1), f(11, 2)},
		inoF:    {f(3, inoF), f(7, inoE, 0), f(11, 1), f(11, 2)},
		inoBig:  {f(3, inoBig), f(7, 1, 4), f(9, inoB, 219, 19), f(11, 1), f(11, 2)},
		inoX:    {f(3, inoX), f(7, 1, 5), f(11, 2)},
		inoGone: {f(3, inoGone)},
		12:      {f(3, 12)},
		20:      {f(3, 20)},
	}
}

// 14.2, 'An inode is authentic': an inode at which nothing stands is lost: it is free, but the root and lost+found, of a generation behind all that are told of, and behind 0, if none is.
func TestInodesLost(t *testing.T) {
	gens := map[int]int{inoX: 1, 12: 1, 20: 1}
	var l []trial
	for ino, found := range lostNodes() {
		gen, told := gens[ino]
		if !told {
			gen = 2
		}
		l = append(l, trial{"the inode " + strconv.Itoa(ino), func(s *scene) { s.loseInode(ino) }, found, func(t *testing.T, s *scene) {
			must := map[int]api.Inode{1: {Kind: 2, Links: 1, Size: 448, Parent: 1, Direct: [12]int{51}}, 2: {Kind: 2, Links: 1, Size: 896, Parent: 1, Direct: [12]int{49, 50}}}[ino]
			if s.inode(ino) != must || s.gen(ino) != gen {
				t.Fatalf("the inode %d is %+v, of the generation %d", ino, s.inode(ino), s.gen(ino))
			}
			if ino == 1 {
				wantSlots(t, s, 1, "0 lost+found 2 1")
				wantSlots(t, s, 2, "0 4 4 1", "1 9 9 1", "2 10 10 2", "3 3 3 1", "4 6 6 1")
			}
			if ino == 2 {
				wantSlots(t, s, 2)
				if x := s.slots(1)[0]; x != (api.Entry{Name: "lost+found", Ino: 2, Gen: 2}) {
					t.Fatalf("the root's first slot: %v", x)
				}
			}
		}})
	}
	tryAll(t, l)
}

// 14.2, 'An inode is authentic': each reason by itself for which one is not; all is found then that is found where nothing stands there.
func TestInodesNotAuthentic(t *testing.T) {
	lost := lostNodes()
	says := func(ino int, change func(i *api.Inode)) func(s *scene) {
		return func(s *scene) { s.say(ino, change) }
	}
	heads := func(ino int, change func(h *api.Head)) func(s *scene) {
		return func(s *scene) { s.head(s.nodeAt(ino), change) }
	}
	bodies := func(ino int, body string) func(s *scene) {
		return func(s *scene) { s.x.Readings[s.nodeAt(ino)].Body = body }
	}
	var l []trial
	add := func(name string, ino int, change func(s *scene), more ...api.Finding) {
		l = append(l, trial{name + ", " + strconv.Itoa(ino), change, append(more, lost[ino]...), nil})
	}
	for ino := range lost {
		for _, kind := range []int{0, 1, 2, 3, 4, 6, 7, 8, 9} {
			add("another kind of block", ino, heads(ino, func(h *api.Head) { h.Kind = kind }))
		}
		add("not Ok", ino, func(s *scene) {
			// What a reading that is not Ok has beside is nothing, its generation neither.
			s.x.Readings[s.nodeAt(ino)].Ok = false
		})
		add("another inode", ino, heads(ino, func(h *api.Head) { h.Ino = ino%20 + 1 }))
		add("no inode at all", ino, heads(ino, func(h *api.Head) { h.Ino = 0 }))
		add("an index", ino, heads(ino, func(h *api.Head) { h.Index = 1 }))
		add("a body of another kind", ino, bodies(ino, "\x04"+blank(447)))
		add("a body with bytes behind", ino, func(s *scene) {
			at := s.nodeAt(ino)
			s.x.Readings[at].Body = s.x.Readings[at].Body[:447] + "\x01"
		})
		add("a body that is none", ino, bodies(ino, filled(1, 448)))
		add("a body of no bytes", ino, bodies(ino, ""))
		add("a body of more bytes", ino, bodies(ino, blank(449)))
		add("too great", ino, says(ino, func(i *api.Inode) { i.Size = 5675265 }))
		add("far too great", ino, says(ino, func(i *api.Inode) { i.Size = 1<<48 - 1 }))
		// A directory's size has a bound of its own.
		add("a directory that is too great", ino, says(ino, func(i *api.Inode) { i.Kind, i.Size = 2, 161*448 }))
		add("a directory of a part of a block", ino, says(ino, func(i *api.Inode) { i.Kind, i.Size = 2, 449 }))
		add("a directory of a part of a block less", ino, says(ino, func(i *api.Inode) { i.Kind, i.Size = 2, 2*448-1 }))
	}
	for _, kind := range []int{0, 1, 3} {
		add("no directory", 1, says(1, func(i *api.Inode) { i.Kind = kind }))
		add("no directory", 2, says(2, func(i *api.Inode) { i.Kind = kind }))
	}
	add("no blocks", 1, says(1, func(i *api.Inode) { i.Size = 0 }))
	for _, n := range []int{0, 1, 3, 160} {
		add("another size", 2, says(2, func(i *api.Inode) { i.Size = n * 448 }))
	}
	tryAll(t, l)
}

// 14.2, 'An inode is authentic': sizes and kinds at their bounds that may be.
func TestInodesAuthentic(t *testing.T) {
	tryAll(t, []trial{
		{"as it stands", func(s *scene) {}, nil, nil},
		{"the greatest file", func(s *scene) { s.say(inoA, func(i *api.Inode) { i.Size = 5675264 }) }, nil, nil},
		{"the greatest directory", func(s *scene) { s.say(inoD, func(i *api.Inode) { i.Size = 160 * 448 }) }, nil, nil},
		{"a greater root", func(s *scene) { s.say(1, func(i *api.Inode) { i.Size = 160 * 448 }) }, nil, nil},
		{"a directory of no blocks", func(s *scene) { s.say(inoE, func(i *api.Inode) { i.Size = 0 }) }, []api.Finding{f(8, inoF), f(11, 1)}, nil},
		{"a generation", func(s *scene) { s.head(s.nodeAt(inoGone), func(h *api.Head) { h.Gen = 1<<32 - 1 }) }, nil, func(t *testing.T, s *scene) {
			if s.gen(inoGone) != 1<<32-1 {
				t.Fatalf("the generation is %d", s.gen(inoGone))
			}
		}},
		{"another volume, address, Version and Salt", func(s *scene) {
			s.head(s.nodeAt(inoA), func(h *api.Head) { h.Volume, h.Address, h.Version, h.Salt = 8, 9, 0, 99 })
			s.head(s.at(inoA, 0), func(h *api.Head) { h.Volume, h.Address, h.Version, h.Salt = 8, 9, 0, 99 })
		}, nil, nil},
	})
}

// 14.2, 'One that is not': its generation is behind those that all heads of that inode tell, of whatever kind, wherever they stand; behind 0, where none tells of it.
func TestInodesGeneration(t *testing.T) {
	gen := func(ino, must int) func(t *testing.T, s *scene) {
		return func(t *testing.T, s *scene) {
			if s.gen(ino) != must || ino > 2 && s.inode(ino) != (api.Inode{}) {
				t.Fatalf("the inode %d is %+v, of the generation %d; want %d", ino, s.inode(ino), s.gen(ino), must)
			}
		}
	}
	tryAll(t, []trial{
		{"none", func(s *scene) { s.loseInode(12) }, []api.Finding{f(3, 12)}, gen(12, 1)},
		{"one of 0", func(s *scene) { s.loseInode(12); s.put(s.free(0), 7, 12, 0, 0, 1, "") }, []api.Finding{f(3, 12)}, gen(12, 1)},
		{"the greatest", func(s *scene) {
			s.loseInode(12)
			s.put(s.free(0), 7, 12, 3, 0, 1, "")
			s.put(s.free(0), 7, 12, 9, 0, 1, "")
			s.put(s.free(0), 7, 12, 5, 0, 9, "")
			s.put(s.free(0), 7, 13, 77, 0, 9, "")
		}, []api.Finding{f(3, 12)}, gen(12, 10)},
		{"the greatest, the first", func(s *scene) {
			s.loseInode(12)
			s.put(s.free(5), 9, 12, 9, 0, 1, "")
			s.put(s.free(0), 8, 12, 3, 0, 1, "")
		}, []api.Finding{f(3, 12)}, gen(12, 10)},
		{"of another kind", func(s *scene) { s.loseInode(12); s.put(s.free(0), 3, 12, 4, 9, 1, "") }, []api.Finding{f(3, 12)}, gen(12, 5)},
		{"at another inode's place", func(s *scene) {
			s.loseInode(12)
			s.head(s.nodeAt(13), func(h *api.Head) { h.Ino, h.Gen = 12, 6 })
		}, []api.Finding{f(3, 12), f(3, 13)}, func(t *testing.T, s *scene) { gen(12, 7)(t, s); gen(13, 1)(t, s) }},
		{"its own, with a wrong index", func(s *scene) {
			s.head(s.nodeAt(12), func(h *api.Head) { h.Index, h.Gen = 1, 8 })
		}, []api.Finding{f(3, 12)}, gen(12, 9)},
		{"below the grids", func(s *scene) { s.loseInode(12); s.put(5, 7, 12, 4, 0, 1, "") }, []api.Finding{f(3, 12)}, gen(12, 5)},
		{"a head that is not Ok", func(s *scene) {
			s.loseInode(12)
			s.x.Readings[s.free(0)].Head = api.Head{Ino: 12, Gen: 5}
		}, []api.Finding{f(3, 12)}, gen(12, 1)},
		// The root's first slot tells of that generation already: it is no finding.
		{"lost+found and its blocks", func(s *scene) { s.loseInode(2); s.lose(49, 50) }, []api.Finding{f(3, 2)}, gen(2, 1)},
		{"the root and its block", func(s *scene) { s.loseInode(1); s.lose(51) }, orphansOfRoot(f(3, 1)), gen(1, 1)},
		{"both, and all their blocks", func(s *scene) { s.loseInode(1, 2); s.lose(49, 50, 51) }, orphansOfRoot(f(3, 1), f(3, 2)), func(t *testing.T, s *scene) {
			gen(1, 1)(t, s)
			gen(2, 1)(t, s)
			wantSlots(t, s, 1, "0 lost+found 2 1")
		}},
		{"negative ones", func(s *scene) { s.loseInode(12); s.put(s.free(0), 7, 12, -5, 0, 1, "") }, []api.Finding{f(3, 12)}, gen(12, -4)},
	})
}

// wantFirstGens tells that all that is wanted, but grids, is of the generation 1.
func wantFirstGens(t *testing.T, what string, c api.Verdict) {
	t.Helper()
	for _, w := range c.Wants {
		if w.Kind != api.KindBlocks && w.Kind != api.KindInodes && w.Gen != 1 {
			t.Fatalf("%s: wanted %s; want the generation 1", what, brief(w))
		}
	}
}

// 14.2, 'One that is not': inodes that are overwritten in an empty file system, of which no other block tells: 1 and 2 where their blocks are, too.
func TestInodesOverwritten(t *testing.T) {
	onVaults(t, func(t *testing.T, v *vault.Vault) {
		p := made(t, v, 48)
		l := layoutOf(t, 48)
		was := p.Copy()
		for ino := 1; ino <= l.Inodes; ino++ {
			p := was.Copy()
			lost := []int{l.Table + ino - 1}
			switch ino {
			case 1:
				lost = append(lost, l.Root)
			case 2:
				lost = append(lost, upTo(l.Lost, l.LostBlocks)...)
			}
			for _, at := range lost {
				all(t, p.Lay(8*at, blank(64)))
			}
			what := "overwritten, the inode " + strconv.Itoa(ino)
			x := wantEvidence(t, what, v, 48, block.All(p))
			c := judged(t, what, x)
			same(t, what+": Findings", c.Findings, []api.Finding{f(3, ino)})
			var wanted []int
			for _, w := range c.Wants {
				wanted = append(wanted, w.Address)
			}
			same(t, what+": Wants", wanted, lost)
			wantFirstGens(t, what, c)
			settled(t, what, x, c)
		}
	})
}

// 14.2: where a generation has no room any more there is no fault of the verdict's: what is wanted says so.
func TestInodesLastGeneration(t *testing.T) {
	_, x := stored(t, vault.Ideal())
	for _, ino := range []int{2, 12} {
		for _, gen := range []int{1<<32 - 1, 1 << 32, math.MaxInt - 1, math.MaxInt} {
			s := newScene(t, x)
			s.loseInode(ino)
			s.put(s.free(0), 7, ino, gen, 0, 1, "")
			c := survey.Judge(s.x)
			if gen == math.MaxInt {
				continue
			}
			judged(t, "the last generation", s.x)
			i := slices.IndexFunc(c.Wants, func(w api.Want) bool { return w.Address == s.nodeAt(ino) })
			if i < 0 || c.Wants[i].Gen != gen+1 {
				t.Fatalf("the inode %d behind the generation %d: %s", ino, gen, brief(c.Wants))
			}
			if ino == 12 {
				settled(t, "the last generation", s.x, c)
			}
		}
	}
}

// 14.2: a free inode is left as it is, whatever it says.
func TestInodesFree(t *testing.T) {
	_, x := stored(t, vault.Ideal())
	s := newScene(t, x)
	s.say(inoGone, func(i *api.Inode) {
		*i = api.Inode{Links: 3, Size: 5675264, Parent: 9, Direct: [12]int{55, 74, 90}, Single: 59, Double: 64}
	})
	if c := judged(t, "a free inode", s.x); len(c.Findings) != 0 || len(c.Wants) != 0 {
		t.Fatalf("a free inode: findings %v, wanted %s", c.Findings, brief(c.Wants))
	}
}

// 14.2: no layout, or another number of readings: the zero verdict. Nothing at all: all is lost, and made anew.
func TestJudgeBounds(t *testing.T) {
	_, x := stored(t, vault.Ideal())
	for _, live := range []int{159, 161, 0, -1, 47, 1025, math.MaxInt, math.MinInt} {
		y := copied(x)
		y.Live = live
		same(t, "another Live", survey.Judge(y), api.Verdict{})
		y.Readings = y.Readings[:min(max(live, 0), 160)]
		if live == 159 || live == 161 {
			continue
		}
		same(t, "another Live, and as many readings", survey.Judge(y), api.Verdict{})
	}
	for _, n := range []int{0, 1, 159} {
		y := copied(x)
		y.Readings = y.Readings[:n]
		same(t, "fewer readings", survey.Judge(y), api.Verdict{})
	}
	y := copied(x)
	y.Readings = append(y.Readings, api.Reading{})
	same(t, "more readings", survey.Judge(y), api.Verdict{})
	same(t, "nothing", survey.Judge(api.Evidence{}), api.Verdict{})
	for _, live := range []int{48, 49, 127, 128, 129, 135, 136, 1023, 1024} {
		y := api.Evidence{Live: live, Readings: make([]api.Reading, live)}
		c := judged(t, "nothing is authentic", y)
		l := layoutOf(t, live)
		must := []api.Finding{f(1), f(11, 1), f(11, 2)}
		for i := range l.Inodes {
			must = append(must, f(3, i+1))
		}
		same(t, "nothing is authentic", c.Findings, rising(must))
		if c.Authentic != 0 || len(c.Wants) != l.Data-27 || len(c.Used) != l.Data {
			t.Fatalf("nothing is authentic: %s", brief(c))
		}
		wantFirstGens(t, "nothing is authentic", c)
		if tree := wantWell(t, "nothing is authentic", settled(t, "nothing is authentic", y, c)); len(tree) != 2 {
			t.Fatalf("nothing is authentic: %v", tree)
		}
	}
}

// 14.2: how many readings are Ok, wherever they stand.
func TestAuthentic(t *testing.T) {
	_, x := stored(t, vault.Ideal())
	count := 0
	for _, r := range x.Readings {
		if r.Ok {
			count++
		}
	}
	if c := survey.Judge(x); c.Authentic != count || count != 25+38 {
		t.Fatalf("Authentic: %d; want %d", c.Authentic, count)
	}
	s := newScene(t, x)
	s.put(0, 1, 0, 0, 0, 1, "")
	s.put(26, 0, 0, 0, 0, 1, "")
	s.put(159, 0, 0, 0, 0, 1, "")
	s.lose(55)
	s.x.Readings[140].Head = api.Head{Kind: 7}
	if c := judged(t, "Authentic", s.x); c.Authentic != count+2 {
		t.Fatalf("Authentic: %d; want %d", c.Authentic, count+2)
	}
}

// 14.2, 'Superblock': 1 without one; 2 where it has another root; nothing else hangs on it, nor on what it says.
func TestJudgeSuper(t *testing.T) {
	_, x := stored(t, vault.Ideal())
	for i := range 8 {
		y := copied(x)
		y.Has, y.Kept, y.Rooted = i&1 == 1, i&2 == 2, i&4 == 4
		var must []api.Finding
		if !y.Has {
			must = []api.Finding{f(1)}
		} else if !y.Rooted {
			must = []api.Finding{f(2)}
		}
		for range 2 {
			c := judged(t, "a superblock", y)
			same(t, "a superblock", c.Findings, must)
			if len(c.Wants) != 0 {
				t.Fatalf("wanted %s", brief(c.Wants))
			}
			y.Super = api.Super{Volume: -1, Epoch: math.MaxInt, Live: 3, Root: "x"}
		}
	}
}
