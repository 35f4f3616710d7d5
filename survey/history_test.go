package survey_test

import (
	"math/rand"
	"slices"
	"strconv"
	"strings"
	"testing"

	"grapnel/api"
	"grapnel/block"
	"grapnel/plate"
	"grapnel/survey"
	"grapnel/vault"
	"grapnel/vfs"
)

// life is a device with a file system, and what befalls it by chance.
type life struct {
	*rand.Rand
	t     *testing.T
	v     *vault.Vault
	live  int
	p     *plate.Plate
	f     *vfs.FS
	saved []*plate.Plate // the device as it was
}

func newLife(t *testing.T, v *vault.Vault, seed int64, live int) *life {
	p := made(t, v, live)
	return &life{Rand: rand.New(rand.NewSource(seed)), t: t, v: v, live: live, p: p, f: mounted(t, p, v)}
}

// path is one of few, so that calls meet; often one of those that are there.
func (g *life) path() string {
	s := ""
	for range 1 + g.Intn(3) {
		s += "/n" + strconv.Itoa(g.Intn(6))
	}
	if g.Intn(2) == 0 {
		return s
	}
	// Down from the root, as far as it goes by chance.
	s = "/"
	for {
		l, e := g.f.List(s)
		if e != api.OK || len(l) == 0 {
			return s
		}
		s = strings.TrimSuffix(s, "/") + "/"
		if g.Intn(3) == 0 {
			return s + "n" + strconv.Itoa(g.Intn(30))
		}
		s += l[g.Intn(len(l))].Name
		if g.Intn(3) == 0 {
			return s
		}
	}
}

// place is a byte of a file, mostly about the bounds of blocks and tables.
func (g *life) place() int {
	l := []int{0, 448, 900, 3 * 448, 11 * 448, 12 * 448, 13 * 448, 123 * 448, 124 * 448, 130 * 448, 236 * 448}
	if g.Intn(100) == 0 {
		return 12667*448 - g.Intn(900)
	}
	return max(l[g.Intn(len(l))]+g.Intn(500)-200, 0)
}

// act does a call, whatever it answers.
func (g *life) act() {
	f := g.f
	switch g.Intn(14) {
	case 0, 1:
		f.Mkdir(g.path())
	case 2, 3:
		f.Create(g.path())
	case 4:
		f.Remove(g.path())
	case 5:
		f.Link(g.path(), g.path())
	case 6, 7:
		f.Rename(g.path(), g.path())
	case 8:
		f.Symlink(g.path(), g.path())
	case 9:
		f.Sync()
	default:
		fd, e := f.Open(g.path())
		if e != api.OK {
			return
		}
		for range 1 + g.Intn(3) {
			f.Write(fd, g.place(), filled(g.Intn(999), 1+g.Intn(600)))
		}
		if g.Intn(4) == 0 {
			f.Trunc(fd, g.place())
		}
		f.Close(fd)
	}
}

// acts does calls, in vain some of them, and lets the power fail, or leaves.
func (g *life) acts() {
	if g.Intn(3) > 0 {
		g.p.Arm(g.Intn(2500))
	}
	n := 10 + g.Intn(60)
	if g.Intn(3) == 0 {
		// A directory of many names, more than the inode's own pointers tell of.
		g.f.Mkdir("/many")
		g.f.Create("/many/a")
		for i := range g.Intn(230) {
			g.f.Link("/many/a", "/many/m"+strconv.Itoa(i))
		}
	}
	for range n {
		g.act()
	}
	if g.Intn(2) == 0 {
		g.f.Leave()
	}
	keep := make([]bool, g.p.Pending())
	for i := range keep {
		keep[i] = g.Intn(3) > 0
	}
	g.p.Start(keep)
	g.saved = append(g.saved, g.p.Copy())
}

// harm does damage: a sector or a block is overwritten, spoilt, put back as it was, or comes from elsewhere. Without back nothing is put back.
func (g *life) harm(q *plate.Plate, back bool) {
	live := 8 * g.live
	for range 1 + g.Intn(1+g.Intn(12)) {
		at, n := g.Intn(live), 1
		if g.Intn(3) == 0 {
			// What tells of others is hit more often.
			at = 8*27 + g.Intn(8*(g.live/8+8))
		}
		if g.Intn(2) == 0 {
			at, n = at-at%8, 8
		}
		if g.Intn(20) == 0 {
			n = min(8*g.Intn(g.live/2), live-at)
		}
		kind := g.Intn(5)
		old := g.saved[g.Intn(len(g.saved))]
		from := g.Intn(live - n + 1)
		if n%8 == 0 {
			from -= from % 8
		}
		for i := range n {
			switch {
			case kind == 0:
				q.Spoil(at + i)
			case kind == 1:
				q.Lay(at+i, filled(g.Intn(999), 64))
			case kind < 4 && back:
				if s, e := old.Held(at + i); e == api.OK {
					q.Lay(at+i, s)
				}
			default:
				if s, e := old.Held(from + i); e == api.OK && from != at {
					q.Lay(at+i, s)
				}
			}
		}
	}
}

// unharmed is that nothing is found of what the file system wrote: its evidence, and what is in it.
func (g *life) unharmed() (api.Evidence, map[string]leaf) {
	g.t.Helper()
	im := block.All(g.p)
	x := wantEvidence(g.t, "behind a crash", g.v, g.live, im)
	c := judged(g.t, "behind a crash", x)
	if !x.Has || !x.Rooted || len(c.Findings) != 0 {
		g.t.Fatalf("behind a crash: has %v, rooted %v, findings %v", x.Has, x.Rooted, c.Findings)
	}
	// What is wanted is no more than what the journal has.
	for _, w := range c.Wants {
		if !slices.Contains(x.Stale, w.Address) {
			g.t.Fatalf("behind a crash: wanted %s; Stale %v", brief(c.Wants), x.Stale)
		}
	}
	return x, wantWell(g.t, "behind a crash", settled(g.t, "behind a crash", x, c))
}

// harmed is that damage is judged, and what is wanted brings a file system back that is whole.
func (g *life) harmed(q *plate.Plate) (api.Evidence, map[string]leaf) {
	g.t.Helper()
	im := block.All(q)
	x := wantEvidence(g.t, "damage", g.v, g.live, im)
	c := judged(g.t, "damage", x)
	tree := wantWell(g.t, "damage", settled(g.t, "damage", x, c))
	if c.Authentic == 0 {
		return x, tree
	}
	im = repaired(g.t, g.v, im, x, c)
	y := gathered(g.t, g.v, g.live, im)
	if d := judged(g.t, "behind a repair", y); !y.Has || !y.Kept || !y.Rooted || len(d.Findings) != 0 || len(d.Wants) != 0 {
		g.t.Fatalf("behind a repair: has %v, kept %v, rooted %v, findings %v, wanted %s", y.Has, y.Kept, y.Rooted, d.Findings, brief(d.Wants))
	}
	for at := range g.live {
		for i := range 8 {
			q.Lay(8*at+i, im.Raws[at][64*i:64*i+64])
		}
	}
	f, e := vfs.Mount(q, g.v, noAnchor)
	want(g.t, "Mount behind a repair", e, api.OK)
	_, e = f.Dump()
	want(g.t, "Dump behind a repair", e, api.OK)
	return x, tree
}

// survives is that all files are there that were not harmed, nor the directories above them.
func (g *life) survives(x, y api.Evidence, was, is map[string]leaf) int {
	g.t.Helper()
	count := 0
	for path, l := range was {
		harmed := slices.ContainsFunc(slices.Concat(l.own, l.above), func(at int) bool { return x.Readings[at] != y.Readings[at] })
		if l.kind == api.Dir || harmed {
			continue
		}
		count++
		if now := is[path]; now.ino != l.ino || now.gen != l.gen || now.kind != l.kind || now.size != l.size || now.data != l.data {
			g.t.Fatalf("%s was %s, and is %s", path, brief(l), brief(now))
		}
	}
	return count
}

// live goes through some rounds of calls and crashes, and of damage: how often each code was found, and how many files survived.
func (g *life) rounds(n int) (codes [13]int, survivors int) {
	g.t.Helper()
	for range n {
		g.acts()
		x, was := g.unharmed()
		for k := range 8 {
			back := k%2 == 0
			q := g.p.Copy()
			g.harm(q, back)
			y, is := g.harmed(q)
			// What is put back may name a directory ahead of where it stood.
			if !back {
				survivors += g.survives(x, y, was, is)
			}
			for _, f := range survey.Judge(y).Findings {
				codes[f.Code]++
			}
		}
		f, e := vfs.Mount(g.p, g.v, noAnchor)
		want(g.t, "Mount", e, api.OK)
		g.f = f
	}
	return codes, survivors
}

// 14.4, 14.5, and what a verdict is at all: histories of calls, crashes and damage, against the words.
func TestHistories(t *testing.T) {
	t.Parallel()
	const lives = 32
	var codes [lives][13]int
	var survivors [lives]int
	t.Run("all", func(t *testing.T) {
		for i := range lives {
			t.Run(strconv.Itoa(i), func(t *testing.T) {
				t.Parallel()
				v := vault.Ideal()
				if i%8 == 7 {
					v = realVault(t)
				}
				g := newLife(t, v, int64(i), []int{48, 49, 64, 127, 128, 160, 200, 240}[i%8])
				codes[i], survivors[i] = g.rounds(6)
			})
		}
	})
	for code := 1; code <= 12; code++ {
		count := 0
		for i := range lives {
			count += codes[i][code]
		}
		t.Logf("the code %d was found %d times", code, count)
		if count < 3 {
			t.Errorf("the code %d was found %d times", code, count)
		}
	}
	count := 0
	for _, n := range survivors {
		count += n
	}
	if count < 2000 {
		t.Errorf("%d files survived", count)
	}
}
