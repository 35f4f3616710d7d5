package mend_test

import (
	"math/rand"
	"testing"

	"grapnel/api"
	"grapnel/block"
	"grapnel/mend"
	"grapnel/plate"
	"grapnel/vault"
)

// scene is a device with something amiss.
type scene struct {
	name string
	live int
	made func(t testing.TB, v *vault.Vault) *plate.Plate
}

// scenes is devices on which there is something to do: one block, some, and nearly all.
func scenes() []scene {
	return []scene{
		{"the superblock alone", 48, func(t testing.TB, v *vault.Vault) *plate.Plate {
			p := stored(t, v, 48)
			overwrite(t, p, 0, 1, 2)
			return p
		}},
		{"a grid", 48, func(t testing.TB, v *vault.Vault) *plate.Plate {
			p := made(t, v, 48)
			all(t, p.Lay(8*28, filled(1, 64)))
			return p
		}},
		{"much", standLive, func(t testing.TB, v *vault.Vault) *plate.Plate { return harmed(t, v).was }},
		{"a commit", 64, func(t testing.TB, v *vault.Vault) *plate.Plate {
			p := stored(t, v, 64)
			f := mounted(t, p, v)
			all(t, f.Mkdir("/new"), p.Arm(40))
			want(t, "Sync", f.Sync(), api.ErrPower)
			p.Start(nil)
			return p
		}},
		{"put back", 64, func(t testing.TB, v *vault.Vault) *plate.Plate {
			p := stored(t, v, 64)
			was := p.Copy()
			f := mounted(t, p, v)
			all(t, f.Remove("/b"), f.Create("/c"), f.Remove("/s"), f.Leave())
			// The root's block and the superblocks are what they were.
			for _, at := range []int{0, 1, layoutOf(t, 64).Root} {
				for i := range 8 {
					s, e := was.Held(8*at + i)
					all(t, e, p.Lay(8*at+i, s))
				}
			}
			overwrite(t, p, 2)
			return p
		}},
		{"nearly all", 48, func(t testing.TB, v *vault.Vault) *plate.Plate {
			p := stored(t, v, 48)
			for at := range 48 {
				if at != 37 {
					all(t, p.Spoil(8*at+at%8))
				}
			}
			return p
		}},
	}
}

// mending is a device that is to be repaired, and what comes of it if nothing disturbs.
type mending struct {
	t      *testing.T
	r      *rand.Rand
	v      *vault.Vault
	scene  scene
	start  *plate.Plate
	whole  *plate.Plate
	report api.Report
	ws     []api.Write
}

func newMending(t *testing.T, v *vault.Vault, s scene) *mending {
	t.Helper()
	m := &mending{t: t, r: rand.New(rand.NewSource(int64(s.live))), v: v, scene: s, start: s.made(t, v)}
	_, m.ws = planned(t, s.name, v, s.live, block.All(m.start))
	m.whole = m.start.Copy()
	var e api.Errno
	m.report, e = repaired(t, s.name, m.whole, v, s.live)
	want(t, s.name, e, api.OK)
	if m.report.Written == 0 {
		t.Fatalf("%s: nothing was to do", s.name)
	}
	wantWhole(t, s.name, m.whole, v)
	return m
}

// writes is how many sectors a repair writes that nothing disturbs, lists is how many of these are of the list and the old blocks.
func (m *mending) writes() int { return m.whole.Writes() - m.start.Writes() }

func (m *mending) lists() int { return m.writes() - 2 - 8*len(m.ws) }

// wantLiving is that the living part is what it was.
func (m *mending) wantLiving(what string, p, was *plate.Plate) {
	m.t.Helper()
	wantKept(m.t, m.scene.name+", "+what, p, was, 8*m.scene.live)
}

// cutOff is a Repair that is cut off behind so many writes. What waits is left.
func (m *mending) cutOff(p *plate.Plate, fuse int) {
	m.t.Helper()
	all(m.t, p.Arm(fuse))
	r, e := mend.Repair(p, m.v)
	want(m.t, m.scene.name+", cut off", e, api.ErrPower)
	sameReport(m.t, m.scene.name+", cut off", r, api.Report{})
	if p.Up() {
		m.t.Fatalf("%s: the power is on", m.scene.name)
	}
}

// wantMended is that a device that was cut off comes to the same at last as if nothing had disturbed.
func (m *mending) wantMended(p *plate.Plate) {
	m.t.Helper()
	r, e := mend.Check(p, m.v)
	want(m.t, m.scene.name+": Check", e, api.OK)
	sameReport(m.t, m.scene.name+": Check", r, m.report)
	sameReport(m.t, m.scene.name, repair(m.t, m.scene.name, p, m.v), m.report)
	p.Start(nil)
	m.wantLiving("mended", p, m.whole)
	if s, e := p.Held(8 * layoutOf(m.t, m.scene.live).Plan); s != blank(64) || e != api.OK {
		m.t.Fatalf("%s: the promise is %q, error %d", m.scene.name, s, e)
	}
}

// 15.5: cut off at each write, and whatever is kept of what waited. Nothing of the living part is written ahead of the promise.
func TestCutOff(t *testing.T) {
	t.Parallel()
	for _, s := range scenes() {
		t.Run(s.name, func(t *testing.T) {
			t.Parallel()
			onVaults(t, func(t *testing.T, v *vault.Vault) {
				m := newMending(t, v, s)
				for fuse := range m.writes() {
					p := m.start.Copy()
					all(t, p.Arm(fuse))
					r, e := repaired(t, s.name, p, v, s.live)
					want(t, s.name, e, api.ErrPower)
					sameReport(t, s.name, r, api.Report{})
					for _, keep := range keeps(p.Pending(), m.r) {
						q := p.Copy()
						q.Start(keep)
						if fuse <= m.lists() {
							m.wantLiving("ahead of the promise", q, m.start)
						}
						m.wantMended(q)
					}
				}
				// There is as much power as it takes.
				p := m.start.Copy()
				all(t, p.Arm(m.writes()))
				sameReport(t, s.name, repair(t, s.name, p, v), m.report)
				wantKept(t, s.name, p, m.whole, p.Sectors())
			})
		})
	}
}

// 15.2: what waits when a repair is cut off tells what was flushed: list and old blocks together, then the promise, the plan's blocks, the end of the promise.
func TestSteps(t *testing.T) {
	v := vault.Ideal()
	for _, s := range scenes() {
		m := newMending(t, v, s)
		promised := m.lists() + 1
		done := promised + 8*len(m.ws)
		for fuse := range m.writes() {
			p := m.start.Copy()
			m.cutOff(p, fuse)
			must := fuse
			switch {
			case fuse >= done:
				must = fuse - done
			case fuse >= promised:
				must = fuse - promised
			case fuse >= m.lists():
				must = fuse - m.lists()
			}
			if p.Pending() != must {
				t.Fatalf("%s: behind %d writes %d wait; want %d", s.name, fuse, p.Pending(), must)
			}
		}
		if m.whole.Pending() != 0 || m.writes() != m.lists()+2+8*len(m.ws) {
			t.Fatalf("%s: %d writes, %d wait", s.name, m.writes(), m.whole.Pending())
		}
	}
}

// 15.5: cut off twice, at each pair of writes.
func TestCutOffTwice(t *testing.T) {
	t.Parallel()
	onVaults(t, func(t *testing.T, v *vault.Vault) {
		m := newMending(t, v, scenes()[0])
		for first := range m.writes() {
			p := m.start.Copy()
			m.cutOff(p, first)
			for second := range m.writes() {
				q := p.Copy()
				q.Start(anyOf(m.r, keeps(q.Pending(), m.r)))
				all(t, q.Arm(second))
				if r, e := mend.Repair(q, v); e == api.OK {
					sameReport(t, "the second", r, m.report)
					m.wantLiving("the second", q, m.whole)
					continue
				}
				q.Start(anyOf(m.r, keeps(q.Pending(), m.r)))
				m.wantMended(q)
			}
		}
	})
}

// 15.5: every part of what waited of a plan's block.
func TestCutOffEachPart(t *testing.T) {
	t.Parallel()
	v := vault.Ideal()
	m := newMending(t, v, scenes()[0])
	for n := range 8 {
		p := m.start.Copy()
		m.cutOff(p, m.lists()+1+n)
		for bits := range 1 << n {
			q, keep := p.Copy(), make([]bool, n)
			for i := range keep {
				keep[i] = bits>>i%2 == 1
			}
			q.Start(keep)
			m.wantMended(q)
		}
	}
}

// 15.5, 15.6: cut off again and again, by chance, held against the words each time.
func TestCutOffOften(t *testing.T) {
	t.Parallel()
	for _, s := range scenes() {
		t.Run(s.name, func(t *testing.T) {
			t.Parallel()
			onVaults(t, func(t *testing.T, v *vault.Vault) {
				m := newMending(t, v, s)
				for range 20 {
					p := m.start.Copy()
					for turn := 0; ; turn++ {
						if turn < 12 {
							all(t, p.Arm(m.r.Intn(m.writes()+1)))
						}
						r, e := repaired(t, s.name, p, v, s.live)
						if e == api.OK {
							sameReport(t, s.name, r, m.report)
							break
						}
						p.Start(anyOf(m.r, keeps(p.Pending(), m.r)))
					}
					p.Start(nil)
					m.wantLiving("at last", p, m.whole)
					wantWhole(t, s.name, p, v)
				}
			})
		})
	}
}

// 15.1, 15.5: as many blocks as a block of the list tells, one less, one more; and as many as there are inodes.
func TestCutOffLong(t *testing.T) {
	t.Parallel()
	onVaults(t, func(t *testing.T, v *vault.Vault) {
		const live = 1024
		start := stored(t, v, live)
		l := layoutOf(t, live)
		for _, lost := range []int{62, 63, 64, 122} {
			s := scene{"long", live, func(t testing.TB, v *vault.Vault) *plate.Plate {
				p := start.Copy()
				// Of the free inodes: each is wanted, and nothing else.
				overwrite(t, p, upTo(l.Table+6, lost)...)
				return p
			}}
			m := newMending(t, v, s)
			if len(m.ws) != 1+lost || m.report.Written != 1+lost || m.lists() != 8*((lost+64)/64)+8*(1+lost) {
				t.Fatalf("%d inodes: %d blocks, %d writes ahead of the promise", lost, len(m.ws), m.lists())
			}
			for _, fuse := range []int{0, 7, m.lists() - 1, m.lists(), m.lists() + 1, m.lists() + 2 + 4*lost, m.writes() - 2, m.writes() - 1} {
				p := m.start.Copy()
				m.cutOff(p, fuse)
				p.Start(each(3, 1, p.Pending()))
				m.wantMended(p)
			}
		}
	})
}
