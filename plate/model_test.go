package plate_test

import (
	"maps"
	"math/rand"
	"slices"
	"testing"

	"grapnel/api"
	"grapnel/plate"
)

// model is a device as the chapter's words say it, without a thought of how long its calls take.
type model struct {
	sectors       int
	kept          map[int]string // what is not bytes 0
	dumb          map[int]bool   // what can't be read
	waits         []waits
	armed, down   bool
	fuse          int
	reads, writes int
}

type waits struct {
	at   int
	text string
}

func newModel(sectors int) *model {
	return &model{sectors: sectors, kept: map[int]string{}, dumb: map[int]bool{}}
}

func (m *model) keep(at int, s string) {
	m.kept[at] = s
	delete(m.dumb, at)
}

func (m *model) held(at int) (string, api.Errno) {
	switch s, written := m.kept[at]; {
	case at < 0 || at >= m.sectors:
		return "", api.ErrRange
	case m.dumb[at]:
		return "", api.ErrSector
	case written:
		return s, api.OK
	}
	return sector(0), api.OK
}

func (m *model) read(at int) (string, api.Errno) {
	if m.down {
		return "", api.ErrPower
	}
	if at < 0 || at >= m.sectors {
		return "", api.ErrRange
	}
	m.reads++
	for _, w := range slices.Backward(m.waits) {
		if w.at == at {
			return w.text, api.OK
		}
	}
	return m.held(at)
}

func (m *model) write(at int, s string) api.Errno {
	switch {
	case len(s) != 64:
		return api.ErrArg
	case m.down:
		return api.ErrPower
	case at < 0 || at >= m.sectors:
		return api.ErrRange
	case m.armed && m.fuse == 0:
		m.down = true
		return api.ErrPower
	}
	m.fuse--
	m.writes++
	m.waits = append(m.waits, waits{at, s})
	return api.OK
}

func (m *model) flush() api.Errno {
	if m.down {
		return api.ErrPower
	}
	for _, w := range m.waits {
		m.keep(w.at, w.text)
	}
	m.waits = nil
	return api.OK
}

func (m *model) arm(n int) api.Errno {
	if n < 0 {
		return api.ErrArg
	}
	if m.down {
		return api.ErrPower
	}
	m.armed, m.fuse = true, n
	return api.OK
}

func (m *model) start(keep []bool) {
	for i := range min(len(keep), len(m.waits)) {
		if keep[i] {
			m.keep(m.waits[i].at, m.waits[i].text)
		}
	}
	m.waits, m.armed, m.down = nil, false, false
}

func (m *model) lay(at int, s string) api.Errno {
	if len(s) != 64 {
		return api.ErrArg
	}
	if at < 0 || at >= m.sectors {
		return api.ErrRange
	}
	m.keep(at, s)
	return api.OK
}

func (m *model) spoil(at int) api.Errno {
	if at < 0 || at >= m.sectors {
		return api.ErrRange
	}
	m.dumb[at] = true
	return api.OK
}

func (m *model) copy() *model {
	other := *m
	other.kept, other.dumb, other.waits = maps.Clone(m.kept), maps.Clone(m.dumb), slices.Clone(m.waits)
	return &other
}

// both is a device, and what it must be.
type both struct {
	p *plate.Plate
	m *model
}

// look holds all that a device tells against what it must tell; each sector is read, so that the counts go on.
func (b both) look(t *testing.T) {
	t.Helper()
	p, m := b.p, b.m
	if p.Sectors() != m.sectors || p.Up() == m.down || p.Pending() != len(m.waits) || p.Reads() != m.reads || p.Writes() != m.writes {
		t.Fatalf("sectors %d, up %v, pending %d, reads %d, writes %d; want %d, %v, %d, %d, %d",
			p.Sectors(), p.Up(), p.Pending(), p.Reads(), p.Writes(), m.sectors, !m.down, len(m.waits), m.reads, m.writes)
	}
	for at := -1; at <= m.sectors; at++ {
		s, e := p.Held(at)
		if ms, me := m.held(at); s != ms || e != me {
			t.Fatalf("Held(%d): %q, error %d; want %q, %d", at, s, e, ms, me)
		}
		s, e = p.Read(at)
		if ms, me := m.read(at); s != ms || e != me {
			t.Fatalf("Read(%d): %q, error %d; want %q, %d", at, s, e, ms, me)
		}
	}
}

// step does one thing that chance chooses, to both.
func (b both) step(t *testing.T, chance *rand.Rand) {
	t.Helper()
	at, s := chance.Intn(b.m.sectors+2)-1, sector(byte(chance.Intn(256)))
	if chance.Intn(20) == 0 {
		s = s[1:]
	}
	switch what := chance.Intn(20); {
	case what < 10:
		wantErr(t, "Write", b.p.Write(at, s), b.m.write(at, s))
	case what < 12:
		wantErr(t, "Flush", b.p.Flush(), b.m.flush())
	case what < 14:
		wantErr(t, "Spoil", b.p.Spoil(at), b.m.spoil(at))
	case what < 16:
		wantErr(t, "Lay", b.p.Lay(at, s), b.m.lay(at, s))
	case what < 18:
		n := chance.Intn(10) - 1
		wantErr(t, "Arm", b.p.Arm(n), b.m.arm(n))
	default:
		keep := make([]bool, chance.Intn(8))
		for i := range keep {
			keep[i] = chance.Intn(2) == 0
		}
		b.p.Start(keep)
		b.m.start(keep)
	}
}

// 4.1 to 4.7: rows of calls to several devices, some of them copies of others, held against the model behind every call.
func TestRows(t *testing.T) {
	for seed := range int64(60) {
		chance := rand.New(rand.NewSource(seed))
		sectors := chance.Intn(7)
		all := []both{{device(t, sectors), newModel(sectors)}}
		for range 400 {
			i := chance.Intn(len(all))
			if chance.Intn(25) == 0 {
				b := both{all[i].p.Copy(), all[i].m.copy()}
				if j := chance.Intn(4); j < len(all) {
					all[j] = b
				} else {
					all = append(all, b)
				}
			}
			all[i].step(t, chance)
			for _, b := range all {
				b.look(t)
			}
		}
	}
}

// 4.7: what was flushed stays through rows of writes, fuses and crashes that keep nothing.
func TestRowsKeepWhatWasFlushed(t *testing.T) {
	for seed := range int64(20) {
		chance := rand.New(rand.NewSource(seed))
		p := device(t, 4)
		for range 40 {
			var flushed [4]string
			for at := range flushed {
				flushed[at] = sector(byte(chance.Intn(256)))
				wantErr(t, "Write", p.Write(at, flushed[at]), api.OK)
			}
			flush(t, p)
			wantErr(t, "Arm", p.Arm(chance.Intn(12)), api.OK)
			for range 12 {
				p.Write(chance.Intn(6)-1, sector(byte(chance.Intn(256))))
			}
			p.Start(nil)
			for at := range flushed {
				wantRead(t, p, at, flushed[at])
			}
		}
	}
}

// A device with many writes that wait tells each sector as fast as one with few.
func TestManyWait(t *testing.T) {
	p := device(t, api.MaxSectors)
	for at := range api.MaxSectors {
		for _, b := range []byte{'a', byte(at)} {
			write(t, p, at, b)
		}
	}
	wantPending(t, p, 2*api.MaxSectors)
	for range 4 {
		for at := range api.MaxSectors {
			if s, e := p.Read(at); e != api.OK || s[0] != byte(at) {
				t.Fatalf("Read(%d): %q, error %d", at, s, e)
			}
		}
	}
	flush(t, p)
	wantHeld(t, p, api.MaxSectors-1, sector(255))
}
