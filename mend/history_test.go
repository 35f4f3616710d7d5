package mend_test

import (
	"math/rand"
	"strconv"
	"strings"
	"testing"

	"grapnel/api"
	"grapnel/block"
	"grapnel/mend"
	"grapnel/plate"
	"grapnel/vault"
	"grapnel/vfs"
)

// place is which block of a file one is.
type place struct{ ino, gen, index int }

// life is a device with a file system, what befalls it by chance, and all that was ever written to files on it.
type life struct {
	*rand.Rand
	t       *testing.T
	v       *vault.Vault
	live    int
	p       *plate.Plate
	f       *vfs.FS
	saved   []*plate.Plate // the device as it was
	written map[place][]string
	seen    int // writes of sectors up to which all is known
	tally
}

// tally is how often something was met.
type tally struct {
	codes                                                 [13]int
	refused, stood, fell, nothing, cutOffs, blocks, zeros int
}

func (a *tally) add(b tally) {
	for i, n := range b.codes {
		a.codes[i] += n
	}
	a.refused, a.stood, a.fell, a.nothing = a.refused+b.refused, a.stood+b.stood, a.fell+b.fell, a.nothing+b.nothing
	a.cutOffs, a.blocks, a.zeros = a.cutOffs+b.cutOffs, a.blocks+b.blocks, a.zeros+b.zeros
}

func newLife(t *testing.T, v *vault.Vault, seed int64, live int) *life {
	p := made(t, v, live)
	return &life{Rand: rand.New(rand.NewSource(seed)), t: t, v: v, live: live, p: p, f: mounted(t, p, v), written: map[place][]string{}}
}

// note remembers each block of a file that the device has.
func (g *life) note() {
	if !g.p.Up() || g.p.Writes() == g.seen {
		return
	}
	g.seen = g.p.Writes()
	for at := range g.live {
		raw, mask, e := block.Get(g.p, at)
		if e != api.OK || mask != 0 {
			continue
		}
		h, body, e := block.Open(g.v, raw)
		if x := (place{h.Ino, h.Gen, h.Index}); e == api.OK && h.Kind == api.KindData && !g.was(x, body) {
			g.written[x] = append(g.written[x], body)
		}
	}
}

// was tells whether bytes once stood in a block of a file, up to a file's end.
func (g *life) was(x place, data string) bool {
	for _, body := range g.written[x] {
		if strings.HasPrefix(body, data) {
			return true
		}
	}
	return false
}

// wantTrue is that what files have is what was once written to just that place of them, or bytes 0: 15.7.
func (g *life) wantTrue(l []api.Node) {
	g.t.Helper()
	zero := blank(448)
	for _, n := range l {
		for from := 0; from < len(n.Data); from += 448 {
			data := n.Data[from:min(from+448, len(n.Data))]
			switch {
			case data == zero[:len(data)]:
				g.zeros++
			case g.was(place{n.Stat.Ino, n.Stat.Gen, from / 448}, data):
				g.blocks++
			default:
				g.t.Fatalf("%s, %+v, from %d on: %q was never written there", n.Path, n.Stat, from, data)
			}
		}
	}
}

// path is one of few, so that calls meet; often one of those that are there.
func (g *life) path() string {
	s := ""
	for range 1 + g.Intn(3) {
		s += "/n" + strconv.Itoa(g.Intn(6))
	}
	if g.Intn(2) == 0 {
		return s
	}
	s = ""
	for {
		l, e := g.f.List(s + "/")
		if e != api.OK || len(l) == 0 || g.Intn(4) == 0 {
			return s + "/n" + strconv.Itoa(g.Intn(30))
		}
		s += "/" + anyOf(g.Rand, l).Name
		if g.Intn(3) == 0 {
			return s
		}
	}
}

// byteOf is a byte of a file, mostly about the bounds of blocks and tables.
func (g *life) byteOf() int {
	if g.Intn(100) == 0 {
		return 12667*448 - g.Intn(900)
	}
	return max(anyOf(g.Rand, []int{0, 448, 900, 3 * 448, 11 * 448, 12 * 448, 13 * 448, 123 * 448, 124 * 448, 130 * 448, 236 * 448})+g.Intn(500)-200, 0)
}

// act does a call, whatever it answers.
func (g *life) act() {
	f := g.f
	switch g.Intn(17) {
	case 0, 1:
		f.Mkdir(g.path())
	case 2, 3:
		f.Create(g.path())
	case 4:
		f.Remove(g.path())
	case 5, 6, 7:
		f.Link(g.path(), g.path())
	case 8, 9:
		f.Rename(g.path(), g.path())
	case 10:
		f.Symlink(g.path(), g.path())
	case 11:
		f.Sync()
	default:
		fd, e := f.Open(g.path())
		if e != api.OK {
			return
		}
		for range 1 + g.Intn(3) {
			f.Write(fd, g.byteOf(), filled(g.Intn(999), 1+g.Intn(600)))
		}
		if g.Intn(4) == 0 {
			f.Trunc(fd, g.byteOf())
		}
		f.Close(fd)
	}
}

// acts does calls, in vain some of them, and lets the power fail, or leaves.
func (g *life) acts() {
	if g.Intn(3) > 0 {
		g.p.Arm(g.Intn(2500))
	}
	for range 10 + g.Intn(60) {
		g.act()
		g.note()
	}
	if g.Intn(2) == 0 {
		g.f.Leave()
		g.note()
	}
	g.p.Start(anyOf(g.Rand, keeps(g.p.Pending(), g.Rand)))
	g.seen = -1
	g.note()
	g.saved = append(g.saved, g.p.Copy())
}

// harm does damage to some sectors or blocks: they are overwritten, spoilt, put back as they were, or come from elsewhere.
func (g *life) harm(q *plate.Plate, sectors int) {
	if g.Intn(12) == 0 {
		overwrite(g.t, q, 0, 1, 2)
	}
	for range 1 + g.Intn(1+g.Intn(12)) {
		at, n := g.Intn(sectors), 1
		if g.Intn(3) == 0 {
			// What tells of others is hit more often.
			at = 8*27 + g.Intn(8*(g.live/8+8))
		}
		if g.Intn(2) == 0 {
			at, n = at-at%8, 8
		}
		if g.Intn(20) == 0 {
			n = min(8*g.Intn(g.live/2), sectors-at)
		}
		g.harmAt(q, at, n, g.Intn(5), g.Intn(sectors-n+1))
	}
}

func (g *life) harmAt(q *plate.Plate, at, n, kind, from int) {
	old := anyOf(g.Rand, g.saved)
	if n%8 == 0 {
		from -= from % 8
	}
	for i := range n {
		switch kind {
		case 0:
			q.Spoil(at + i)
		case 1:
			q.Lay(at+i, filled(g.Intn(999), 64))
		case 2:
			if s, e := old.Held(from + i); e == api.OK {
				q.Lay(at+i, s)
			}
		default:
			if s, e := old.Held(at + i); e == api.OK {
				q.Lay(at+i, s)
			}
		}
	}
}

// isWhole is that a repair that was OK did what it must: G2, G3.
func (g *life) isWhole(what string, q *plate.Plate) {
	g.t.Helper()
	g.wantTrue(wantWhole(g.t, what, q, g.v))
}

// cut lets repairs be cut off by chance; between them there is more damage, if that is to be. It tells the report of the one that is OK.
func (g *life) cut(q *plate.Plate, writes int, more bool) api.Report {
	g.t.Helper()
	for turn := 0; ; turn++ {
		if turn < 8 {
			all(g.t, q.Arm(g.Intn(writes+1)))
		}
		promise := bare(q).Raws[g.live][:4] == "PLAN"
		d := mustDo(g.t, g.v, g.live, q)
		switch {
		case d.stands:
			g.stood++
		case promise:
			g.fell++
		}
		r, e := repaired(g.t, "cut off", q, g.v, g.live)
		if e != api.ErrPower {
			want(g.t, "at last", e, d.e)
			q.Start(nil)
			return r
		}
		g.cutOffs++
		q.Start(anyOf(g.Rand, keeps(q.Pending(), g.Rand)))
		if more && g.Intn(3) == 0 {
			g.harm(q, q.Sectors())
		}
	}
}

// mended repairs a device that was damaged, once undisturbed, once cut off, once damaged in between, too. It tells one of those that came of it; nil, if nothing was authentic.
func (g *life) mended(q *plate.Plate) *plate.Plate {
	g.t.Helper()
	start := q.Copy()
	r, e := repaired(g.t, "damage", q, g.v, g.live)
	if e == api.ErrRefuse {
		g.refused++
		wantAlike(g.t, "refused", q, start)
		return nil
	}
	want(g.t, "damage", e, api.OK)
	if r.Written == 0 {
		g.nothing++
	}
	for _, f := range r.Findings {
		g.codes[f.Code]++
	}
	g.isWhole("damage", q)
	writes := q.Writes() - start.Writes()
	cut := start.Copy()
	sameReport(g.t, "cut off", g.cut(cut, writes, false), r)
	wantKept(g.t, "cut off", cut, q, 8*g.live)
	worse := start.Copy()
	g.cut(worse, writes, true)
	if _, e := mend.Check(worse, g.v); e == api.ErrRefuse {
		g.refused++
		return q
	}
	g.isWhole("damaged in between", worse)
	return anyOf(g.Rand, []*plate.Plate{q, cut, worse})
}

// rounds goes through some rounds of calls and crashes, of damage and repairs. Life goes on with what comes of them.
func (g *life) rounds(n int) {
	g.t.Helper()
	for range n {
		g.acts()
		next := g.p
		for range 4 {
			q := g.p.Copy()
			g.harm(q, anyOf(g.Rand, []int{8 * g.live, q.Sectors()}))
			if r := g.mended(q); r != nil {
				next = r
			}
		}
		g.p = next
		g.f = mounted(g.t, g.p, g.v)
		g.seen = -1
		g.note()
	}
}

// 15.2 to 15.7, G2, G3: histories of calls, crashes, damage and repairs that are cut off.
func TestHistories(t *testing.T) {
	t.Parallel()
	const lives = 32
	var tallies [lives]tally
	t.Run("all", func(t *testing.T) {
		for i := range lives {
			t.Run(strconv.Itoa(i), func(t *testing.T) {
				t.Parallel()
				v := vault.Ideal()
				if i%16 == 15 {
					v = realVault(t)
				}
				g := newLife(t, v, int64(i), []int{48, 49, 64, 65, 100, 128, 130, 160}[i%8])
				g.rounds(5)
				tallies[i] = g.tally
			})
		}
	})
	var sum tally
	for _, x := range tallies {
		sum.add(x)
	}
	t.Logf("%+v", sum)
	for code := 1; code <= 12; code++ {
		if sum.codes[code] < 3 {
			t.Errorf("the code %d was found %d times", code, sum.codes[code])
		}
	}
	if sum.stood < 100 || sum.fell < 20 || sum.cutOffs < 500 || sum.blocks < 1000 || sum.zeros < 100 {
		t.Errorf("too few: %+v", sum)
	}
}
