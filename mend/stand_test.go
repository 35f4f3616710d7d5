package mend_test

import (
	"math/rand"
	"slices"
	"strconv"
	"strings"
	"testing"

	"grapnel/api"
	"grapnel/block"
	"grapnel/mend"
	"grapnel/plate"
	"grapnel/vault"
)

// standLive is the living part of the devices on which plans stand; a list has two blocks of room there.
const standLive = 72

// begun is a device whose repair was cut off: as it was ahead of it, what it was to write, and how far it came.
type begun struct {
	t      testing.TB
	v      *vault.Vault
	l      api.Layout
	was    *plate.Plate
	image  api.Image
	report api.Report
	ws     []api.Write
}

// harmed is a device with much amiss, some sectors of which can't be read.
func harmed(t testing.TB, v *vault.Vault) begun {
	t.Helper()
	p := stored(t, v, standLive)
	l := layoutOf(t, standLive)
	// The journal's promise is gone: else it would bring much back.
	overwrite(t, p, l.Commit, l.Nodes, l.Table+3)
	all(t, p.Spoil(8*(l.Table+2)), p.Spoil(8*(l.Table+2)+5), p.Spoil(8*l.Lost+7), p.Spoil(8*1+2), p.Spoil(8*0+3))
	b := begun{t: t, v: v, l: l, was: p, image: block.All(p)}
	var e api.Errno
	b.report, b.ws, e = mend.Plan(v, standLive, b.image)
	want(t, "Plan", e, api.OK)
	if len(b.ws) < 6 || len(b.report.Findings) < 6 {
		t.Fatalf("the report %v of %d blocks", b.report, len(b.ws))
	}
	return b
}

// ahead is how many sectors are written ahead of the plan's blocks.
func (b begun) ahead() int { return 8*((len(b.ws)+63)/64) + 8*len(b.ws) + 1 }

// cutAt is the device when so many sectors were written, of which those are kept of what waited.
func (b begun) cutAt(writes int, keep func(n int) []bool) *plate.Plate {
	b.t.Helper()
	p := b.was.Copy()
	all(b.t, p.Arm(writes))
	_, e := mend.Repair(p, b.v)
	want(b.t, "Repair, cut off", e, api.ErrPower)
	p.Start(keep(p.Pending()))
	return p
}

// done is the device when all was written but the end of the promise.
func (b begun) done() *plate.Plate {
	return b.cutAt(b.ahead()+8*len(b.ws), func(n int) []bool { return nil })
}

// half is the device when of the plan's blocks every other sector was written.
func (b begun) half() *plate.Plate {
	return b.cutAt(b.ahead()+8*len(b.ws)-1, func(n int) []bool { return each(2, 0, n) })
}

// promised is the device when nothing was written of the plan's blocks.
func (b begun) promised() *plate.Plate {
	return b.cutAt(b.ahead(), func(n int) []bool { return nil })
}

// wantStands is that a plan stands on a device, or does not; a repair of it does what the words say, and makes it whole.
func (b begun) wantStands(what string, p *plate.Plate, stands bool) {
	b.t.Helper()
	if d := mustDo(b.t, b.v, standLive, p); d.stands != stands {
		b.t.Fatalf("%s: by the words a plan stands: %t", what, d.stands)
	}
	r, e := repaired(b.t, what, p, b.v, standLive)
	want(b.t, what, e, api.OK)
	wantWhole(b.t, what, p, b.v)
	if stands {
		sameReport(b.t, what, r, b.report)
	}
}

// forge lays a promise of so many blocks over what the device was, their list, and what stood there; whatever the addresses and masks are.
func (b begun) forge(p *plate.Plate, was api.Image, count int, addresses, masks []int) {
	b.t.Helper()
	var list strings.Builder
	for i, at := range addresses {
		list.WriteString(number(at, 4) + number(masks[i], 4))
		old := blank(512)
		if at < len(was.Raws) {
			old = was.Raws[at]
		}
		layAt(b.t, p, b.l.Old+i, old)
	}
	text := list.String()
	text += blank(b.l.ListBlocks*512 - len(text))
	for i := range b.l.ListBlocks {
		layAt(b.t, p, b.l.List+i, text[512*i:512*i+512])
	}
	all(b.t, p.Lay(8*b.l.Plan, promiseText(b.v, standLive, was, count)))
}

// listed is the addresses of the plan, and which of their sectors could not be read.
func (b begun) listed() ([]int, []int) {
	var at, masks []int
	for _, w := range b.ws {
		at, masks = append(at, w.Address), append(masks, b.image.Masks[w.Address])
	}
	return at, masks
}

// Words, 'a plan stands': wherever its blocks were cut off, of whichever sectors.
func TestStands(t *testing.T) {
	t.Parallel()
	onVaults(t, func(t *testing.T, v *vault.Vault) {
		b, r := harmed(t, v), rand.New(rand.NewSource(1))
		b.wantStands("promised", b.promised(), true)
		b.wantStands("half", b.half(), true)
		b.wantStands("done", b.done(), true)
		for i := range 20 {
			p := b.promised()
			for _, w := range b.ws {
				for k, x := range cutUp(w.Address, w.Raw) {
					if r.Intn(1+i) == 0 {
						all(t, p.Lay(8*w.Address+k, x.text))
					}
				}
			}
			b.wantStands("by chance", p, true)
		}
		// Ahead of the promise none stands.
		b.wantStands("not begun", b.was.Copy(), false)
		b.wantStands("not promised", b.cutAt(b.ahead()-1, func(n int) []bool { return nil }), false)
		// Nor when all is over.
		p := b.was.Copy()
		repair(t, "over", p, v)
		b.wantStands("over", p, false)
	})
}

// Words: the promise's sector: that it can be read, each of its bytes, and its Mac.
func TestStandsPromise(t *testing.T) {
	t.Parallel()
	onVaults(t, func(t *testing.T, v *vault.Vault) {
		b := harmed(t, v)
		at := 8 * b.l.Plan
		for name, p := range map[string]*plate.Plate{"half": b.half(), "done": b.done()} {
			promise, _ := p.Held(at)
			q := p.Copy()
			all(t, q.Spoil(at))
			b.wantStands(name+", can't be read", q, false)
			for i := range 64 {
				q := p.Copy()
				all(t, q.Lay(at, with(promise, i)))
				b.wantStands(name+", the byte "+strconv.Itoa(i), q, false)
			}
			q = p.Copy()
			for i := 1; i < 8; i++ {
				all(t, q.Spoil(at+i))
			}
			b.wantStands(name+", the sectors behind it", q, true)
			for what, text := range map[string]string{
				"PLAN":      "PLAM" + promise[4:40],
				"plan":      "plan" + promise[4:40],
				"none":      "PLAN" + number(0, 4) + promise[8:40],
				"one less":  "PLAN" + number(len(b.ws)-1, 4) + promise[8:40],
				"one more":  "PLAN" + number(len(b.ws)+1, 4) + promise[8:40],
				"Live":      "PLAN" + number(standLive, 4) + promise[8:40],
				"beyond":    "PLAN" + number(standLive+1, 4) + promise[8:40],
				"very many": "PLAN" + blank(4) + promise[8:40],
				"most":      "PLAN\xff\xff\xff\xff" + promise[8:40],
				"the hash":  promise[:8] + v.Hash("something else"),
			} {
				q := p.Copy()
				all(t, q.Lay(at, marked(v, text)))
				b.wantStands(name+", "+what, q, false)
			}
			for i := range 8 {
				q := p.Copy()
				all(t, q.Lay(at, promise[:56+i]+"x"+promise[57+i:]))
				b.wantStands(name+", what is behind the Mac", q, false)
			}
			// A mark for another purpose, and one of another vault.
			for _, mac := range []string{v.Mac("report", promise[:40]), v.Mac("", promise[:40]), vault.Ideal().Mac("plan", promise[:40]), blank(16)} {
				if mac == promise[40:56] {
					continue
				}
				q := p.Copy()
				all(t, q.Lay(at, promise[:40]+mac+blank(8)))
				b.wantStands(name+", another Mac", q, false)
			}
		}
	})
}

// Words: list and old blocks can be read; those of the plan, not what is behind them.
func TestStandsSpoilt(t *testing.T) {
	t.Parallel()
	onVaults(t, func(t *testing.T, v *vault.Vault) {
		b := harmed(t, v)
		for name, p := range map[string]*plate.Plate{"promised": b.promised(), "half": b.half()} {
			for i := range 8 {
				q := p.Copy()
				all(t, q.Spoil(8*b.l.List+i))
				b.wantStands(name+", the list", q, false)
				q = p.Copy()
				all(t, q.Spoil(8*(b.l.List+1)+i), q.Spoil(8*(b.l.Old+len(b.ws))+i))
				b.wantStands(name+", behind the list, behind the old blocks", q, true)
				for _, k := range []int{0, 1, len(b.ws) - 1} {
					q := p.Copy()
					all(t, q.Spoil(8*(b.l.Old+k)+i))
					b.wantStands(name+", an old block", q, false)
				}
			}
		}
	})
}

// Words: the list's addresses and numbers, and the old blocks: what the device was hangs on each of their bytes.
func TestStandsBytes(t *testing.T) {
	t.Parallel()
	v := vault.Ideal()
	b := harmed(t, v)
	p := b.half()
	for i := range 8*len(b.ws) + 3 {
		q := p.Copy()
		at := 8*b.l.List + i/64
		text, _ := q.Held(at)
		all(t, q.Lay(at, with(text, i%64)))
		// Behind its entries nothing is looked at.
		b.wantStands("the byte "+strconv.Itoa(i)+" of the list", q, i >= 8*len(b.ws))
	}
	for i := range 8 * len(b.ws) {
		q := p.Copy()
		at := 8*b.l.Old + i
		text, _ := q.Held(at)
		all(t, q.Lay(at, with(text, 9*i%64)))
		b.wantStands("the sector "+strconv.Itoa(i)+" of the old blocks", q, false)
	}
}

// Words: the addresses rise and are below Live, the numbers of sectors are below 256, the plan has just these addresses: promises that were made, of which all else is right.
func TestStandsList(t *testing.T) {
	t.Parallel()
	onVaults(t, func(t *testing.T, v *vault.Vault) {
		b := harmed(t, v)
		at, masks := b.listed()
		n := len(at)
		for name, p := range map[string]*plate.Plate{"promised": b.promised(), "half": b.half(), "done": b.done()} {
			try := func(what string, count int, at, masks []int, stands bool) {
				t.Helper()
				q := p.Copy()
				b.forge(q, b.image, count, at, masks)
				b.wantStands(name+", "+what, q, stands)
			}
			try("the list again", n, at, masks, true)
			turned, turnedMasks := slices.Clone(at), slices.Clone(masks)
			slices.Reverse(turned)
			slices.Reverse(turnedMasks)
			try("turned", n, turned, turnedMasks, false)
			try("the last twice", n+1, append(slices.Clone(at), at[n-1]), append(slices.Clone(masks), masks[n-1]), false)
			try("the first twice", n+1, append([]int{at[0]}, at...), append([]int{masks[0]}, masks...), false)
			// An address that the plan does not have, as it is: of what the device was nothing is another one.
			try("one more", n+1, append(slices.Clone(at), standLive-1), append(slices.Clone(masks), 0), false)
			try("the journal's", n+1, append([]int{at[0], 5}, at[1:]...), append([]int{masks[0], 0}, masks[1:]...), false)
			for _, beyond := range []int{standLive, b.l.List, b.l.Total - 1, b.l.Total, 1 << 31, 1<<32 - 1} {
				try("beyond", n+1, append(slices.Clone(at), beyond), append(slices.Clone(masks), 0), false)
			}
			for i := range at {
				high := slices.Clone(masks)
				high[i] += 256
				try("a mask", n, at, high, false)
				high[i] += 1<<32 - 512
				try("a greater mask", n, at, high, false)
			}
		}
		// Where nothing was written, a list that lacks one tells the same device.
		for i := range at {
			q := b.promised()
			b.forge(q, b.image, n-1, slices.Delete(slices.Clone(at), i, i+1), slices.Delete(slices.Clone(masks), i, i+1))
			b.wantStands("one less", q, false)
			q = b.promised()
			b.forge(q, b.image, n, append(slices.Delete(slices.Clone(at), i, i+1), standLive-1), append(slices.Delete(slices.Clone(masks), i, i+1), 0))
			b.wantStands("another one", q, false)
		}
		// Of a device that is whole there is no plan, of one on which nothing is authentic, either.
		whole := stored(t, v, standLive)
		q := whole.Copy()
		b.forge(q, block.All(whole), 1, []int{40}, []int{0})
		b.wantStands("of a whole one", q, false)
		none := whole.Copy()
		overwrite(t, none, 2)
		overwrite(t, none, upTo(27, standLive-27)...)
		q = whole.Copy()
		overwrite(t, q, 2)
		b.forge(q, block.All(none), standLive-27, upTo(27, standLive-27), make([]int, standLive-27))
		b.wantStands("of nothing", q, false)
	})
}

// Words: each sector of the plan's blocks is what it was, or what the plan says; all others are what they were.
func TestStandsSectors(t *testing.T) {
	t.Parallel()
	onVaults(t, func(t *testing.T, v *vault.Vault) {
		b := harmed(t, v)
		at, _ := b.listed()
		// Of each block some sectors were written, and some not.
		p := b.half()
		for sector := range 8 * standLive {
			inPlan := slices.Contains(at, sector/8)
			if !inPlan && sector%29 != 0 {
				continue
			}
			what := "the sector " + strconv.Itoa(sector)
			text, e := p.Held(sector)
			wasDumb := b.image.Masks[sector/8]>>(sector%8)%2 == 1
			if e == api.ErrSector {
				// Bytes 0 stand in the old block; they are not what it was. They may be what the plan says.
				says := filled(1, 64)
				if inPlan {
					says = b.ws[slices.Index(at, sector/8)].Raw[sector%8*64:][:64]
				}
				q := p.Copy()
				all(t, q.Lay(sector, blank(64)))
				b.wantStands(what+" as bytes 0", q, says == blank(64))
				q = p.Copy()
				all(t, q.Lay(sector, says))
				b.wantStands(what+" as the plan says", q, inPlan)
				continue
			}
			q := p.Copy()
			all(t, q.Lay(sector, with(text, 63)))
			b.wantStands(what, q, false)
			q = p.Copy()
			all(t, q.Spoil(sector))
			// One that could not be read, and can't be read again, is what it was.
			b.wantStands(what+", spoilt", q, inPlan && wasDumb)
		}
	})
}

// 15.2: a plan that does not stand is none; what is there then counts, though half of it was written.
func TestStandsNoMore(t *testing.T) {
	v := vault.Ideal()
	b := harmed(t, v)
	p := b.done()
	all(t, p.Spoil(8*b.l.Plan))
	r, e := mend.Check(p, v)
	want(t, "Check", e, api.OK)
	sameReport(t, "Check", r, api.Report{Volume: b.report.Volume, Epoch: b.report.Epoch})
	q := b.done()
	r, e = mend.Check(q, v)
	want(t, "Check", e, api.OK)
	sameReport(t, "Check", r, b.report)
	// What a file system did since is not undone.
	p = b.done()
	f := mounted(t, p, v)
	all(t, f.Mkdir("/new"), f.Leave())
	r = repair(t, "mounted since", p, v)
	if r.Written != 0 || len(r.Findings) != 0 {
		t.Fatalf("mounted since: %v", r)
	}
	l := wantWhole(t, "mounted since", p, v)
	if !slices.ContainsFunc(l, func(n api.Node) bool { return n.Path == "/new" }) {
		t.Fatalf("mounted since: %s", brief(l))
	}
}
