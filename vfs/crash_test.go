package vfs_test

import (
	"math/rand"
	"reflect"
	"strconv"
	"testing"

	"grapnel/api"
	"grapnel/plate"
	"grapnel/vault"
	"grapnel/vfs"
)

// told is all of a tree that is kept on a device, in one form.
func (x *plain) told() []thing {
	l := x.mounted().things
	for i := range l {
		if len(l[i].slots) == 0 {
			l[i].slots = nil
		}
		if len(l[i].pieces) == 0 {
			l[i].pieces = nil
		}
	}
	return l
}

// history is calls, and the trees ahead of each and behind the last.
type history struct {
	acts  []act
	trees []*plain
}

// play does calls till the power fails. It tells how many were done, and behind which of them the last Sync was OK.
func (h *history) play(t *testing.T, f *vfs.FS) (int, int) {
	t.Helper()
	synced := 0
	for i, a := range h.acts {
		x := h.trees[i].copy()
		got, must := do(f, a), do(x, a)
		if got.e == api.ErrPower {
			if !reflect.DeepEqual(got, answer{e: api.ErrPower}) {
				t.Fatalf("%s, cut off: %s", brief(a), brief(got))
			}
			want(t, "a call behind the power's end", f.Sync(), api.ErrState)
			return i, synced
		}
		if !reflect.DeepEqual(got, must) {
			t.Fatalf("%s: %s; a plain tree's %s", brief(a), brief(got), brief(must))
		}
		if a.call == "sync" {
			synced = i + 1
		}
	}
	return len(h.acts), synced
}

// newHistory is calls by chance, from a tree on.
func newHistory(x *plain, c *chance, n, sync int) *history {
	h := &history{trees: []*plain{x}}
	// Something is open from the beginning on, as far as there is room for it.
	begin := []act{{call: "create", s: "/n0"}, {call: "open", s: "/n0"}, {call: "mkdir", s: "/n1"}, {call: "create", s: "/n1/n0"}, {call: "open", s: "/n1/n0"}}
	for i := range n {
		c.full = i%60 < 45
		a := c.act(x)
		if i < len(begin) {
			a = begin[i]
		} else if a.call == "sync" || c.Intn(sync) == 0 {
			a = act{call: []string{"stat", "sync"}[min(c.Intn(sync), 1)], s: "/"}
		}
		x = x.copy()
		do(x, a)
		h.acts, h.trees = append(h.acts, a), append(h.trees, x)
	}
	return h
}

// wantOneOf mounts a device behind a crash, and finds which of the trees it has: it must be one of those from the first on up to the last.
func (h *history) wantOneOf(t *testing.T, p *plate.Plate, v *vault.Vault, first, last int) (*vfs.FS, int) {
	t.Helper()
	f, e := vfs.Mount(p, v, noAnchor)
	want(t, "Mount behind a crash", e, api.OK)
	x, _ := readDisk(t, p, v)
	for i := last; i >= first; i-- {
		if reflect.DeepEqual(x.told(), h.trees[i].told()) {
			alike(t, "behind a crash", f, h.trees[i].mounted())
			return f, i
		}
	}
	t.Fatalf("behind a crash the tree is none of those from the call %d on up to %d: %s", first, last, brief(mustDump(t, f)))
	return nil, 0
}

// 13.10: the power fails at each write of a row of calls, and whatever is kept of what waited.
func TestCrashEachWrite(t *testing.T) {
	t.Parallel()
	for _, c := range []struct {
		name              string
		live, calls, sync int
		seed              int64
		v                 *vault.Vault
	}{{"often synced", 48, 60, 8, 1, vault.Ideal()}, {"seldom synced", 64, 120, 1000, 2, vault.Ideal()}, {"filled", 48, 60, 30, 3, vault.Ideal()}, {"far", 72, 60, 20, 4, vault.Ideal()}, {"real", 48, 40, 10, 5, realVault(t)}} {
		t.Run(c.name, func(t *testing.T) {
			t.Parallel()
			r := rand.New(rand.NewSource(c.seed))
			start := newDevice(t, sectorsOf(c.live))
			mustMake(t, start, c.v)
			mustMount(t, start, c.v)
			h := newHistory(newPlain(c.live), newChance(c.seed, 3, c.name == "far"), c.calls, c.sync)
			newer := 0
			for fuse := 0; ; fuse++ {
				p := start.Copy()
				f := mustMount(t, p, c.v)
				p.Arm(fuse)
				done, synced := h.play(t, f)
				if done == len(h.acts) {
					if fuse < 300 {
						t.Fatalf("there were %d writes", fuse)
					}
					break
				}
				k := keeps(p.Pending(), r)
				if fuse%5 > 0 {
					k = [][]bool{k[r.Intn(len(k))]}
				}
				for _, keep := range k {
					q := p.Copy()
					q.Start(keep)
					if _, i := h.wantOneOf(t, q, c.v, synced, done); i > synced {
						newer++
					}
				}
			}
			if newer == 0 {
				t.Fatal("nothing but what was synced was ever there")
			}
		})
	}
}

// 13.10: histories of many crashes, mounts being cut off, too.
func TestCrashHistories(t *testing.T) {
	t.Parallel()
	for seed := range int64(12) {
		t.Run(strconv.Itoa(int(seed)), func(t *testing.T) {
			t.Parallel()
			v := vault.Ideal()
			if seed == 0 {
				v = realVault(t)
			}
			c := newChance(100+seed, 2+int(seed), seed%2 == 0)
			live := 48 + 13*int(seed)
			p := newDevice(t, sectorsOf(live))
			mustMake(t, p, v)
			x := newPlain(live)
			f := mustMount(t, p, v)
			for range 25 {
				h := newHistory(x.mounted(), c, 5+c.Intn(40), 5+c.Intn(20))
				p.Arm(c.Intn(1500))
				done, synced := h.play(t, f)
				k := keeps(p.Pending(), c.Rand)
				p.Start(k[c.Intn(len(k))])
				// A mount that is cut off changes nothing of it.
				for range c.Intn(4) {
					p.Arm(c.Intn(400))
					if _, e := vfs.Mount(p, v, noAnchor); e != api.OK && e != api.ErrPower {
						t.Fatalf("Mount, cut off: error %d", e)
					}
					k := keeps(p.Pending(), c.Rand)
					p.Start(k[c.Intn(len(k))])
				}
				i := 0
				f, i = h.wantOneOf(t, p, v, synced, done)
				x = h.trees[i].mounted()
			}
		})
	}
}

// 13.8, 13.10: what was synced, and what was left, is there behind a crash, and nothing that was done later.
func TestCrashBehindSync(t *testing.T) {
	onVaults(t, func(t *testing.T, v *vault.Vault) {
		p, f := made(t, v, 48)
		want(t, "Create", f.Create("/a"), api.OK)
		want(t, "Sync", f.Sync(), api.OK)
		want(t, "Create", f.Create("/b"), api.OK)
		p.Start(nil)
		g := mustMount(t, p, v)
		if l := mustDump(t, g); len(l) != 3 || l[2].Path != "/a" {
			t.Fatalf("behind a crash: %v", l)
		}
		want(t, "Create", g.Create("/c"), api.OK)
		want(t, "Leave", g.Leave(), api.OK)
		p.Start(nil)
		if l := mustDump(t, mustMount(t, p, v)); len(l) != 4 || l[3].Path != "/c" {
			t.Fatalf("behind a crash: %v", l)
		}
	})
}
