package survey_test

import (
	"math/rand"
	"slices"
	"strconv"
	"testing"

	"grapnel/api"
	"grapnel/block"
	"grapnel/pack"
	"grapnel/shelf"
	"grapnel/survey"
	"grapnel/vault"
)

// forger changes evidence by chance, so that it is authentic, and wrong.
type forger struct {
	*rand.Rand
	*scene
}

// some is one of several.
func some[T any](r *forger, l ...T) T { return l[r.Intn(len(l))] }

// address is one of the living part, mostly of the data; seldom one beyond.
func (r *forger) address() int {
	switch r.Intn(12) {
	case 0:
		return r.Intn(r.x.Live + 3)
	case 1:
		return some(r, 0, 1, 27, r.l.Root, r.l.Lost, r.l.Data-1, r.l.Data, r.x.Live-1, r.x.Live, 1<<32-1)
	}
	return r.l.Data + r.Intn(r.x.Live-r.l.Data)
}

func (r *forger) ino() int { return some(r, 0, 1, 2, 3+r.Intn(r.l.Inodes), 3+r.Intn(6), 3+r.Intn(3)) }

// ofInode is the generation that an inode has, or another one.
func (r *forger) genOf(ino int) int {
	if ino >= 1 && ino <= r.l.Inodes && r.Intn(4) > 0 {
		return r.gen(ino)
	}
	return r.Intn(3)
}

func (r *forger) index() int {
	return some(r, 0, 1, 2, 11, 12, 13, 123, 124, 125, 235, 236, 348, 12667, r.Intn(15))
}

func (r *forger) size() int {
	return min(max(r.index()*448+some(r, 0, 0, 448, 1, -1, 447), 0), 5675264+r.Intn(2))
}

func (r *forger) entry() api.Entry {
	ino := r.ino()
	name := some(r, "", "a", "b", "n1", "m"+strconv.Itoa(r.Intn(40)), "lost+found", "..", "x/y")
	if name == "" {
		return api.Entry{}
	}
	return api.Entry{Name: name, Ino: ino, Gen: r.genOf(ino)}
}

// inodeChange changes one thing that an inode says.
func (r *forger) inodeChange(i *api.Inode) {
	switch r.Intn(10) {
	case 0:
		i.Kind = r.Intn(4)
	case 1:
		i.Links = r.Intn(5)
	case 2:
		i.Parent = r.ino()
	case 3, 4:
		i.Size = r.size()
	case 5:
		i.Size = 448 * r.Intn(16)
	case 6:
		i.Single = r.address()
	case 7:
		i.Double = r.address()
	default:
		i.Direct[r.Intn(12)] = some(r, 0, r.address(), r.address())
	}
}

// change changes one thing of the evidence.
func (r *forger) change() {
	at := r.address()
	if at >= r.x.Live {
		at = 27 + r.Intn(2)
	}
	x := &r.x.Readings[at]
	switch r.Intn(13) {
	case 0:
		*x = api.Reading{}
	case 1:
		ino := r.ino()
		kind := some(r, 6, 7, 7, 8, 9)
		body := filled(r.Intn(99), 448)
		if kind == 6 && r.Intn(5) > 0 {
			body = pageText(r.t, []api.Entry{r.entry(), r.entry()})
		} else if kind >= 8 {
			l := make([]int, 112)
			for range 5 {
				l[some(r, 0, 1, 2, 111)] = r.address()
			}
			body = tableText(r.t, l)
		}
		*x = reading(at, kind, ino, r.genOf(ino), some(r, r.index(), r.Intn(3)), r.Intn(9), body)
	case 2:
		h := &x.Head
		*some(r, &h.Kind, &h.Ino, &h.Gen, &h.Index) = r.Intn(10)
	case 3:
		*x = r.x.Readings[min(r.address(), r.x.Live-1)]
	case 4:
		x.Body = some(r, "", blank(448), filled(1, 448), "/a"+blank(446), x.Body[:len(x.Body)/2])
	case 5:
		r.x.Stale = append(r.x.Stale, r.address())
	case 6:
		*some(r, &r.x.Has, &r.x.Kept, &r.x.Rooted) = r.Intn(2) == 0
	case 7, 8:
		r.slotChange()
	case 9:
		r.tableChange()
	default:
		ino := 1 + r.Intn(some(r, 6, r.l.Inodes))
		x := &r.x.Readings[r.nodeAt(ino)]
		if i, e := pack.InodeOf(x.Body); e == api.OK {
			r.inodeChange(&i)
			x.Body = inodeText(r.t, i)
		}
	}
}

// slotChange changes a slot of a directory's block.
func (r *forger) slotChange() {
	var pages []int
	for at, x := range r.x.Readings {
		if x.Head.Kind == 6 && x.Ok {
			pages = append(pages, at)
		}
	}
	if len(pages) == 0 {
		return
	}
	at := pages[r.Intn(len(pages))]
	if _, e := shelf.Page(r.x.Readings[at].Body); e == api.OK {
		r.slot(at, r.Intn(some(r, 3, 16)), r.entry())
	}
}

// tableChange changes a number of a table.
func (r *forger) tableChange() {
	for at, x := range r.x.Readings {
		if x.Ok && x.Head.Kind >= 8 && len(x.Body) == 448 && r.Intn(3) == 0 {
			r.point(at, some(r, 0, 1, 2, 111, r.Intn(112)), some(r, 0, r.address()))
			return
		}
	}
}

// hasRoom tells whether lost+found had room for all that may come into it, and no number as a name.
func hasRoom(t testing.TB, x api.Evidence) bool {
	l := layoutOf(t, x.Live)
	names := 0
	for at := l.Lost; at < l.Root; at++ {
		slots, _ := shelf.Page(x.Readings[at].Body)
		for _, y := range shelf.Names(slots) {
			names++
			if _, err := strconv.Atoi(y.Name); err == nil {
				return false
			}
		}
	}
	return names+l.Inodes <= 16*l.LostBlocks
}

// 14.2, 14.4: evidence that is changed in some places by chance, against the words.
func TestForged(t *testing.T) {
	t.Parallel()
	var bases []api.Evidence
	_, x := stored(t, vault.Ideal())
	bases = append(bases, x, x)
	for seed, live := range []int{48, 48, 56, 64, 128, 136} {
		g := newLife(t, vault.Ideal(), int64(100+seed), live)
		for range 2 {
			g.acts()
			y := gathered(t, g.v, live, block.All(g.p))
			bases = append(bases, y)
			g.f = mounted(t, g.p, g.v)
		}
	}
	for i, base := range bases {
		t.Run(strconv.Itoa(i), func(t *testing.T) {
			t.Parallel()
			r := &forger{Rand: rand.New(rand.NewSource(int64(i)))}
			settledOnes := 0
			codes := [13]int{}
			for range 400 {
				r.scene = newScene(t, base)
				for range 1 + r.Intn(1+r.Intn(25)) {
					r.change()
				}
				was := copied(r.x)
				c := judged(t, "forged", r.x)
				same(t, "what was handed in", r.x, was)
				for _, f := range c.Findings {
					codes[f.Code]++
				}
				free := slices.ContainsFunc(r.x.Readings[r.l.Table:r.l.Lost], func(x api.Reading) bool {
					i, e := pack.InodeOf(x.Body)
					return e == api.OK && i.Kind == 0 && i != api.Inode{}
				})
				if hasRoom(t, r.x) {
					y := settled(t, "forged", r.x, c)
					if !free {
						wantWell(t, "forged", y)
					}
					settledOnes++
				}
			}
			if settledOnes < 50 {
				t.Errorf("%d of 400 are settled", settledOnes)
			}
			t.Log(codes)
		})
	}
}

// R1: evidence of any bytes and numbers ends in a verdict.
func TestForgedRubbish(t *testing.T) {
	t.Parallel()
	r := rand.New(rand.NewSource(5))
	number := func() int {
		return []int{0, 1, 2, 3, 5, 6, 7, 8, 9, 12, 47, 48, -1, 1 << 32, 1 << 62, -1 << 63}[r.Intn(16)]
	}
	for range 3000 {
		x := api.Evidence{Live: 48 + r.Intn(2)*number(), Has: r.Intn(2) == 0, Rooted: r.Intn(2) == 0}
		for range x.Live {
			if len(x.Readings) > 200 {
				break
			}
			at := len(x.Readings)
			y := api.Reading{Ok: r.Intn(4) > 0, Head: api.Head{Volume: number(), Address: number(), Kind: number(), Ino: number(), Gen: number(), Index: number(), Version: number(), Salt: number()}}
			if at >= 29 && at < 35 && r.Intn(3) > 0 {
				y.Ok, y.Head.Kind, y.Head.Ino, y.Head.Index, y.Head.Gen = true, 5, at-28, 0, 1
			}
			b := make([]byte, []int{0, 1, 27, 28, 447, 448, 448, 448, 449}[r.Intn(9)])
			for i := range b {
				if r.Intn(3) == 0 {
					b[i] = byte(r.Intn(60))
				}
			}
			if len(b) > 12 && r.Intn(2) == 0 {
				copy(b, string([]byte{byte(r.Intn(4)), 0, 1, 0, 0, 0, byte(64 * r.Intn(4)), byte(r.Intn(250)), byte(r.Intn(9)), 0, 0, 0}))
				clear(b[min(len(b), 70):])
			}
			y.Body = string(b)
			x.Readings = append(x.Readings, y)
		}
		for range r.Intn(4) {
			x.Stale = append(x.Stale, number())
		}
		c := survey.Judge(x)
		wellTold(t, "rubbish", x, c)
		if len(x.Readings) == x.Live && x.Live == 48 {
			judged(t, "rubbish", x)
		}
	}
}
