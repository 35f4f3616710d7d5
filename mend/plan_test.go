package mend_test

import (
	"math"
	"slices"
	"testing"

	"grapnel/api"
	"grapnel/block"
	"grapnel/mend"
	"grapnel/plate"
	"grapnel/survey"
	"grapnel/vault"
)

// planned is a plan, held against the words.
func planned(t testing.TB, what string, v *vault.Vault, live int, im api.Image) (api.Report, []api.Write) {
	t.Helper()
	r, ws, e := mend.Plan(v, live, im)
	mustReport, must, mustError := mustPlan(t, v, live, im)
	want(t, what+": Plan", e, mustError)
	sameReport(t, what+": the report", r, mustReport)
	same(t, what+": the plan", ws, must)
	return r, ws
}

// addresses is where a plan's blocks stand.
func addresses(ws []api.Write) []int {
	var l []int
	for _, w := range ws {
		l = append(l, w.Address)
	}
	return l
}

// superOn is the superblock that counts on a device.
func superOn(t testing.TB, v *vault.Vault, p *plate.Plate, live int) api.Super {
	t.Helper()
	x, e := survey.Gather(v, live, block.All(p))
	want(t, "Gather", e, api.OK)
	if !x.Has {
		t.Fatal("there is no superblock")
	}
	return x.Super
}

// layHead lays a block that says so, whatever stood there.
func layHead(t testing.TB, v *vault.Vault, p *plate.Plate, h api.Head) {
	t.Helper()
	layAt(t, p, h.Address, sealedText(t, v, h, blank(448)))
}

// laySuper lays a superblock into its slot.
func laySuper(t testing.TB, v *vault.Vault, p *plate.Plate, s api.Super) {
	t.Helper()
	layAt(t, p, s.Epoch%2, superText(t, v, s))
}

// wantPlan holds what a plan comes to against what must be: the epoch, how many blocks, and the superblock's Next.
func wantPlan(t testing.TB, what string, v *vault.Vault, p *plate.Plate, live int, must api.Super, at ...int) {
	t.Helper()
	r, ws := planned(t, what, v, live, block.All(p))
	same(t, what+": the addresses", addresses(ws), at)
	if r.Volume != must.Volume || r.Epoch != must.Epoch || r.Written != len(ws) {
		t.Fatalf("%s: the report %v of %d blocks; want %v", what, r, len(ws), must)
	}
	h, body, e := block.Open(v, ws[0].Raw)
	want(t, what+": Open", e, api.OK)
	same(t, what+": the superblock's head", h, api.Head{Volume: must.Volume, Address: must.Epoch % 2, Kind: 1, Version: must.Epoch, Salt: must.Epoch})
	if head := number(must.Volume, 6) + number(must.Epoch, 6) + number(must.Next, 6) + number(live, 4); body[:22] != head {
		t.Fatalf("%s: the superblock says %x; want %x", what, body[:22], head)
	}
	for i, w := range ws[1:] {
		h, _, e := block.Open(v, w.Raw)
		want(t, what+": Open", e, api.OK)
		if h.Volume != must.Volume || h.Salt != must.Epoch || h.Version != must.Next-len(ws)+1+i {
			t.Fatalf("%s: the block %d has the head %v; want %v", what, i, h, must)
		}
	}
}

// 15.1: live has a layout, or there is no plan, whatever the image is.
func TestPlanLives(t *testing.T) {
	v := vault.Ideal()
	im := block.All(made(t, v, 48))
	for _, live := range []int{math.MinInt, -1, 0, 47, 1025, math.MaxInt} {
		for _, x := range []api.Image{im, {}} {
			for _, w := range append(notGiven(), v) {
				r, ws, e := mend.Plan(w, live, x)
				want(t, "Plan", e, api.ErrArg)
				sameReport(t, "Plan", r, api.Report{})
				same(t, "Plan", ws, []api.Write(nil))
			}
		}
	}
	for _, live := range []int{48, 49, 63, 64, 65, 127, 128, 129, 1023, 1024} {
		p := made(t, v, live)
		r, ws := planned(t, "empty", v, live, block.All(p))
		sameReport(t, "empty", r, api.Report{Volume: 7})
		same(t, "empty", ws, []api.Write(nil))
		overwrite(t, p, 28)
		wantPlan(t, "overwritten", v, p, live, api.Super{Volume: 7, Epoch: 1, Next: layoutOf(t, live).Data - 27 + 2}, 1, 28)
		// A living part of another size is none of this device; what is authentic is so all the same.
		for _, other := range []int{live - 1, live + 1} {
			if other >= 48 && other <= 1024 {
				planned(t, "another size", v, other, block.All(p))
			}
		}
	}
}

// 15.1: without anything authentic there is no plan. Of a verdict superblocks are none that count; what a promise has is some.
func TestPlanRefuses(t *testing.T) {
	onVaults(t, func(t *testing.T, v *vault.Vault) {
		p := stored(t, v, 48)
		overwrite(t, p, upTo(27, 21)...)
		planned(t, "what a promise has", v, 48, block.All(p))
		repair(t, "what a promise has", p, v)
		wantWhole(t, "what a promise has", p, v)

		p = stored(t, v, 48)
		overwrite(t, p, 2)
		left := p.Copy()
		overwrite(t, left, upTo(27, 21)...)
		spoilt := p.Copy()
		for at := 27; at < 48; at++ {
			all(t, spoilt.Spoil(8*at+at%8))
		}
		images := map[string]api.Image{"bytes 0": block.All(newDevice(t, 784)), "superblocks": block.All(left), "a sector each": block.All(spoilt), "nothing": {}}
		for name, im := range images {
			if r, ws, e := mend.Plan(v, 48, im); e != api.ErrRefuse || len(ws) != 0 || r.Findings != nil || r.Epoch != 0 || r.Volume != 0 || r.Written != 0 {
				t.Fatalf("%s: %v, %d blocks, error %d", name, r, len(ws), e)
			}
		}
		for _, other := range append(notGiven(), vault.Ideal(), realOther(t)) {
			if r, ws, e := mend.Plan(other, 48, block.All(p)); e != api.ErrRefuse || len(ws) != 0 || r.Epoch != 0 {
				t.Fatalf("another vault: %v, %d blocks, error %d", r, len(ws), e)
			}
		}
		// One block that is authentic is enough, whatever it is: all is made anew.
		for _, h := range []api.Head{{Address: 47, Kind: 7, Ino: 5, Version: 30, Salt: 8}, {Address: 27, Kind: 99, Version: 3, Salt: 4}} {
			q := left.Copy()
			overwrite(t, q, 0, 1, 2)
			layHead(t, v, q, h)
			r, _ := planned(t, "one block", v, 48, block.All(q))
			if r.Epoch != h.Salt+h.Version+1 || r.Volume != 0 {
				t.Fatalf("one block %v: %v", h, r)
			}
			repair(t, "one block", q, v)
			same(t, "one block", len(wantWhole(t, "one block", q, v)), 2)
		}
	})
}

func realOther(t testing.TB) *vault.Vault {
	t.Helper()
	v, e := vault.Real("pass phrase", "tlas", 2)
	want(t, "vault.Real", e, api.OK)
	return v
}

// Words, 'a plan': nothing, where nothing is wanted, and the evidence is Rooted and Kept; of each of these by itself the opposite.
func TestPlanNothing(t *testing.T) {
	onVaults(t, func(t *testing.T, v *vault.Vault) {
		p := stored(t, v, 48)
		s := superOn(t, v, p, 48)
		r, ws := planned(t, "left", v, 48, block.All(p))
		sameReport(t, "left", r, api.Report{Volume: 7, Epoch: s.Epoch})
		same(t, "left", ws, []api.Write(nil))

		// Something is wanted: one sector ahead of the tag is another one, so that the root is the same.
		q := p.Copy()
		all(t, q.Lay(8*28, filled(1, 64)))
		come := api.Super{Volume: 7, Epoch: s.Epoch + 1, Next: s.Next + 1}
		wantPlan(t, "wanted", v, q, 48, come, come.Epoch%2, 28)

		// Not Rooted, all else being as it was: the superblock alone.
		q = p.Copy()
		other := s
		other.Root = filled(1, 32)
		laySuper(t, v, q, other)
		wantPlan(t, "not Rooted", v, q, 48, api.Super{Volume: 7, Epoch: s.Epoch + 1, Next: s.Next}, (s.Epoch+1)%2)
		r, _ = planned(t, "not Rooted", v, 48, block.All(q))
		same(t, "not Rooted", r.Findings, []api.Finding{{Code: 2}})

		// Without a superblock it is neither.
		q = p.Copy()
		overwrite(t, q, 0, 1, 2)
		x, _ := survey.Gather(v, 48, block.All(q))
		come = mustCome(x)
		if come.Epoch < 3 {
			t.Fatalf("without a superblock: %v", come)
		}
		wantPlan(t, "no superblock", v, q, 48, come, come.Epoch%2)
		r, _ = planned(t, "no superblock", v, 48, block.All(q))
		same(t, "no superblock", r.Findings, []api.Finding{{Code: 1}})
	})
}

// Words: Rooted, but not Kept: the promise of a commit has the superblock, and its blocks stand in their places already, or not yet.
func TestPlanNotKept(t *testing.T) {
	onVaults(t, func(t *testing.T, v *vault.Vault) {
		start := stored(t, v, 64)
		f := mounted(t, start, v)
		all(t, f.Create("/new"))
		was := superOn(t, v, start, 64)
		all(t, start.Arm(1000))
		n := start.Writes()
		all(t, f.Sync())
		// A commit writes its blocks, a promise, its blocks, a superblock.
		blocks := (start.Writes() - n - 16) / 16
		p := start.Copy()
		overwrite(t, p, (was.Epoch+1)%2)
		s := superOn(t, v, p, 64)
		wantPlan(t, "in their places", v, p, 64, api.Super{Volume: 7, Epoch: s.Epoch + 1, Next: s.Next}, (s.Epoch+1)%2)
		r, _ := planned(t, "in their places", v, 64, block.All(p))
		same(t, "in their places", r.Findings, []api.Finding(nil))
		if s.Epoch != was.Epoch+1 {
			t.Fatalf("of the promise: %v; was %v", s, was)
		}
		// The superblock to come takes the place of the one ahead of the promise's.
		repair(t, "in their places", p, v)
		wantWhole(t, "in their places", p, v)

		p = stored(t, v, 64)
		f = mounted(t, p, v)
		all(t, f.Create("/new"), p.Arm(8*blocks+8))
		want(t, "Sync", f.Sync(), api.ErrPower)
		p.Start(nil)
		s = superOn(t, v, p, 64)
		x, _ := survey.Gather(v, 64, block.All(p))
		if x.Kept || !x.Rooted || len(x.Stale) != blocks {
			t.Fatalf("cut off: Kept %t, Rooted %t, Stale %v; %d blocks", x.Kept, x.Rooted, x.Stale, blocks)
		}
		wantPlan(t, "not yet", v, p, 64, api.Super{Volume: 7, Epoch: s.Epoch + 1, Next: s.Next + blocks}, append([]int{(s.Epoch + 1) % 2}, x.Stale...)...)
		repair(t, "not yet", p, v)
		l := wantWhole(t, "not yet", p, v)
		if !slices.ContainsFunc(l, func(n api.Node) bool { return n.Path == "/new" }) {
			t.Fatal("what was promised is not there")
		}
	})
}

// Words, 'the superblock to come': its Next against the greatest Version; without a superblock its Epoch, and the Volume.
func TestPlanNumbers(t *testing.T) {
	onVaults(t, func(t *testing.T, v *vault.Vault) {
		p := stored(t, v, 48)
		s := superOn(t, v, p, 48)
		all(t, p.Lay(8*28, filled(1, 64)))
		greatest := 0
		x, _ := survey.Gather(v, 48, block.All(p))
		for _, r := range x.Readings {
			greatest = max(greatest, r.Head.Version)
		}
		if s.Next != greatest+1 {
			t.Fatalf("Next %d, the greatest Version %d", s.Next, greatest)
		}
		for next, must := range map[int]int{0: s.Next, s.Next - 1: s.Next, s.Next: s.Next, s.Next + 1: s.Next + 1, 1 << 40: 1 << 40} {
			q, other := p.Copy(), s
			other.Next, other.Volume = next, 3
			laySuper(t, v, q, other)
			wantPlan(t, "Next", v, q, 48, api.Super{Volume: 3, Epoch: s.Epoch + 1, Next: must + 1}, (s.Epoch+1)%2, 28)
		}
		// A block that nobody has counts, too: it is authentic.
		for _, version := range []int{s.Next - 1, s.Next, s.Next + 5} {
			q := p.Copy()
			layHead(t, v, q, api.Head{Volume: 9, Address: 47, Kind: 7, Ino: 6, Version: version, Salt: 77})
			wantPlan(t, "a greater Version", v, q, 48, api.Super{Volume: 7, Epoch: s.Epoch + 1, Next: max(s.Next, version+1) + 1}, (s.Epoch+1)%2, 28)
			overwrite(t, q, 0, 1, 2)
			must := api.Super{Volume: 9, Epoch: 77 + max(version, greatest) + 1, Next: max(version, greatest) + 2}
			wantPlan(t, "the last one's Volume", v, q, 48, must, must.Epoch%2, 28)
		}
		// The greatest Salt and the greatest Version are those of two blocks, the Volume is that of the last of all.
		q := p.Copy()
		overwrite(t, q, 0, 1, 2)
		layHead(t, v, q, api.Head{Volume: 8, Address: 44, Kind: 7, Version: 900, Salt: 2})
		layHead(t, v, q, api.Head{Volume: 6, Address: 45, Kind: 7, Version: 3, Salt: 801})
		layHead(t, v, q, api.Head{Volume: 5, Address: 46, Kind: 7, Version: 4, Salt: 3})
		all(t, q.Spoil(8*47))
		wantPlan(t, "of two blocks", v, q, 48, api.Super{Volume: 5, Epoch: 1702, Next: 902}, 0, 28)
		// What stands below the grids, or behind the living part, is none of these.
		layHead(t, v, q, api.Head{Volume: 1, Address: 26, Kind: 7, Version: 5000, Salt: 5000})
		layHead(t, v, q, api.Head{Volume: 1, Address: 48, Kind: 7, Version: 5000, Salt: 5000})
		wantPlan(t, "behind the living part", v, q, 48, api.Super{Volume: 5, Epoch: 1702, Next: 902}, 0, 28)
	})
}

// 15.1: an error where a number has no room, and nothing is sealed then.
func TestPlanNoRoom(t *testing.T) {
	const most = 1<<48 - 1
	v := vault.Ideal()
	start, count := stored(t, v, 48), counter{v: v}
	s := superOn(t, v, start, 48)
	all(t, start.Lay(8*28, filled(1, 64)))
	super := func(change func(s *api.Super)) func(p *plate.Plate) {
		return func(p *plate.Plate) {
			x := s
			change(&x)
			overwrite(t, p, 1-x.Epoch%2)
			laySuper(t, v, p, x)
		}
	}
	heads := func(l ...api.Head) func(p *plate.Plate) {
		return func(p *plate.Plate) {
			overwrite(t, p, 0, 1, 2)
			for _, h := range l {
				layHead(t, v, p, h)
			}
		}
	}
	for _, c := range []struct {
		name string
		room bool
		lay  func(p *plate.Plate)
	}{
		{"the last Epoch but one", true, super(func(s *api.Super) { s.Epoch = most - 1 })},
		{"the last Epoch", false, super(func(s *api.Super) { s.Epoch = most })},
		{"the last Next but one", true, super(func(s *api.Super) { s.Next = most - 1 })},
		{"the last Next", false, super(func(s *api.Super) { s.Next = most })},
		{"the last Version but two", true, heads(api.Head{Address: 47, Kind: 7, Version: most - 2})},
		{"the last Version but one", false, heads(api.Head{Address: 47, Kind: 7, Version: most - 1})},
		{"the last Version", false, heads(api.Head{Address: 47, Kind: 7, Version: most})},
		{"the last Salt", false, heads(api.Head{Address: 47, Kind: 7, Salt: most})},
		{"the last Salt and Version", false, heads(api.Head{Address: 47, Kind: 7, Salt: most, Version: most})},
		{"a Salt and a Version", true, heads(api.Head{Address: 46, Kind: 7, Salt: most / 2}, api.Head{Address: 47, Kind: 7, Version: most / 2})},
		{"a Salt and a Version more", false, heads(api.Head{Address: 46, Kind: 7, Salt: most/2 + 1}, api.Head{Address: 47, Kind: 7, Version: most / 2})},
		{"the last generation but one", true, func(p *plate.Plate) {
			layHead(t, v, p, api.Head{Address: 47, Kind: 7, Ino: 6, Gen: 1<<32 - 2})
			overwrite(t, p, 2, 34)
		}},
		{"the last generation", false, func(p *plate.Plate) {
			layHead(t, v, p, api.Head{Address: 47, Kind: 7, Ino: 6, Gen: 1<<32 - 1})
			overwrite(t, p, 2, 34)
		}},
		{"the last generation of lost+found", false, func(p *plate.Plate) {
			layHead(t, v, p, api.Head{Address: 47, Kind: 7, Ino: 2, Gen: 1<<32 - 1})
			overwrite(t, p, 2, 30)
		}},
	} {
		p := start.Copy()
		c.lay(p)
		if c.room {
			planned(t, c.name, v, 48, block.All(p))
			continue
		}
		// What is gathered may be hashed first: so all of that is numbered ahead.
		survey.Gather(v, 48, block.All(p))
		was := p.Copy()
		sealed, hashed := count.next(t)
		r, ws, e := mend.Plan(v, 48, block.All(p))
		want(t, c.name, e, api.ErrRange)
		same(t, c.name, ws, []api.Write(nil))
		sameReport(t, c.name, r, api.Report{})
		for _, call := range []func(*plate.Plate, *vault.Vault) (api.Report, api.Errno){mend.Check, mend.Repair} {
			r, e := call(p, v)
			want(t, c.name, e, api.ErrRange)
			sameReport(t, c.name, r, api.Report{})
			wantAlike(t, c.name, p, was)
		}
		if a, b := count.next(t); a != sealed+1 || b != hashed+1 {
			t.Fatalf("%s: of the seals %d is behind %d, of the hashes %d behind %d", c.name, a, sealed, b, hashed)
		}
	}
}

// counter asks an ideal vault which numbers it gives next. Each time it takes one of both.
type counter struct {
	v     *vault.Vault
	asked int
}

func (c *counter) next(t testing.TB) (sealed, hashed int) {
	t.Helper()
	c.asked++
	text := "never seen " + number(c.asked, 4)
	s, e := c.v.Seal(0, blank(12), "", text)
	want(t, "Seal", e, api.OK)
	for i, b := range []byte(s[len(text):][:6]) {
		sealed += int(b) << (8 * i)
	}
	for i, b := range []byte(c.v.Hash(text)[:6]) {
		hashed += int(b) << (8 * i)
	}
	return sealed, hashed
}
