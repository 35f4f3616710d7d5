package plate_test

import (
	"math"
	"strings"
	"testing"

	"grapnel/api"
	"grapnel/plate"
)

// sector is 64 bytes of one kind.
func sector(b byte) string {
	return strings.Repeat(string([]byte{b}), 64)
}

func device(t *testing.T, sectors int) *plate.Plate {
	t.Helper()
	p, e := plate.New(sectors)
	if e != api.OK || p == nil {
		t.Fatalf("New(%d): device %v, error %d", sectors, p != nil, e)
	}
	return p
}

// off is a device whose power failed at a write of the sector 0, which is not among the writes that were taken.
func off(t *testing.T, sectors int) *plate.Plate {
	t.Helper()
	p := device(t, sectors)
	cut(t, p)
	return p
}

func cut(t *testing.T, p *plate.Plate) {
	t.Helper()
	wantErr(t, "Arm(0)", p.Arm(0), api.OK)
	wantErr(t, "Write at the fuse's end", p.Write(0, sector('!')), api.ErrPower)
	wantUp(t, p, false)
}

func wantErr(t *testing.T, what string, got, want api.Errno) {
	t.Helper()
	if got != want {
		t.Fatalf("%s: error %d; want %d", what, got, want)
	}
}

func wantText(t *testing.T, what, got string, e api.Errno, want string) {
	t.Helper()
	if got != want || e != api.OK {
		t.Fatalf("%s: %q, error %d; want %q", what, got, e, want)
	}
}

func wantNone(t *testing.T, what, got string, e, want api.Errno) {
	t.Helper()
	if got != "" || e != want {
		t.Fatalf("%s: %q, error %d; want nothing, error %d", what, got, e, want)
	}
}

func wantRead(t *testing.T, p *plate.Plate, at int, want string) {
	t.Helper()
	s, e := p.Read(at)
	wantText(t, "Read", s, e, want)
}

func wantHeld(t *testing.T, p *plate.Plate, at int, want string) {
	t.Helper()
	s, e := p.Held(at)
	wantText(t, "Held", s, e, want)
}

func wantSpoilt(t *testing.T, p *plate.Plate, at int) {
	t.Helper()
	s, e := p.Held(at)
	wantNone(t, "Held of a spoilt sector", s, e, api.ErrSector)
}

func wantUp(t *testing.T, p *plate.Plate, want bool) {
	t.Helper()
	if p.Up() != want {
		t.Fatalf("Up: %v; want %v", p.Up(), want)
	}
}

func wantPending(t *testing.T, p *plate.Plate, want int) {
	t.Helper()
	if n := p.Pending(); n != want {
		t.Fatalf("Pending: %d; want %d", n, want)
	}
}

func wantCounts(t *testing.T, p *plate.Plate, reads, writes int) {
	t.Helper()
	if p.Reads() != reads || p.Writes() != writes {
		t.Fatalf("%d reads, %d writes; want %d and %d", p.Reads(), p.Writes(), reads, writes)
	}
}

func write(t *testing.T, p *plate.Plate, at int, b byte) {
	t.Helper()
	wantErr(t, "Write", p.Write(at, sector(b)), api.OK)
}

func flush(t *testing.T, p *plate.Plate) {
	t.Helper()
	wantErr(t, "Flush", p.Flush(), api.OK)
}

func spoil(t *testing.T, p *plate.Plate, at int) {
	t.Helper()
	wantErr(t, "Spoil", p.Spoil(at), api.OK)
}

func lay(t *testing.T, p *plate.Plate, at int, b byte) {
	t.Helper()
	wantErr(t, "Lay", p.Lay(at, sector(b)), api.OK)
}

// 4.1: the bounds of how many sectors there may be.
func TestNew(t *testing.T) {
	for _, n := range []int{-1, math.MinInt, api.MaxSectors + 1, math.MaxInt} {
		if p, e := plate.New(n); p != nil || e != api.ErrArg {
			t.Fatalf("New(%d): device %v, error %d; want none, error %d", n, p != nil, e, api.ErrArg)
		}
	}
	for _, n := range []int{0, 1, 2, 32767, 32768} {
		p := device(t, n)
		if p.Sectors() != n {
			t.Fatalf("New(%d) has %d sectors", n, p.Sectors())
		}
		wantUp(t, p, true)
		wantPending(t, p, 0)
		wantCounts(t, p, 0, 0)
		for at := range n {
			wantHeld(t, p, at, sector(0))
			wantRead(t, p, at, sector(0))
		}
		wantCounts(t, p, n, 0)
		s, e := p.Read(n)
		wantNone(t, "Read beyond", s, e, api.ErrRange)
	}
}

// 4.1: a new device has no fuse: it takes as many writes as one likes.
func TestNewHasNoFuse(t *testing.T) {
	p := device(t, 3)
	for i := range 1000 {
		write(t, p, i%3, byte(i))
	}
	wantUp(t, p, true)
	wantPending(t, p, 1000)
	wantCounts(t, p, 0, 1000)
}

// wantOutside asks a blank device for places that it has not; first is what Read and Write tell there, which need the power.
func wantOutside(t *testing.T, p *plate.Plate, sectors int, first api.Errno) {
	t.Helper()
	for _, at := range []int{-1, sectors, sectors + 1, -sectors, math.MinInt, math.MaxInt} {
		s, e := p.Read(at)
		wantNone(t, "Read outside", s, e, first)
		s, e = p.Held(at)
		wantNone(t, "Held outside", s, e, api.ErrRange)
		wantErr(t, "Write outside", p.Write(at, sector('w')), first)
		wantErr(t, "Lay outside", p.Lay(at, sector('l')), api.ErrRange)
		wantErr(t, "Spoil outside", p.Spoil(at), api.ErrRange)
	}
	wantBlank(t, p, sectors)
}

// 4.2 to 4.5: every call at the edges of a device, the power being on.
func TestPlacesOn(t *testing.T) {
	const n = 5
	for _, at := range []int{0, 1, n - 1} {
		p := device(t, n)
		wantRead(t, p, at, sector(0))
		wantHeld(t, p, at, sector(0))
		write(t, p, at, 'w')
		wantRead(t, p, at, sector('w'))
		wantHeld(t, p, at, sector(0))
		lay(t, p, at, 'l')
		wantHeld(t, p, at, sector('l'))
		spoil(t, p, at)
		wantSpoilt(t, p, at)
		for other := range n {
			if other != at {
				wantRead(t, p, other, sector(0))
				wantHeld(t, p, other, sector(0))
			}
		}
	}
	p := device(t, n)
	wantOutside(t, p, n, api.ErrRange)
	wantUp(t, p, true)
	wantPending(t, p, 0)
}

// wantBlank asks whether bytes 0 are kept of every sector.
func wantBlank(t *testing.T, p *plate.Plate, sectors int) {
	t.Helper()
	for at := range sectors {
		wantHeld(t, p, at, sector(0))
	}
}

// 4.2 to 4.5: every call at the edges of a device, the power being off: Held, Lay and Spoil go on.
func TestPlacesOff(t *testing.T) {
	const n = 5
	for _, at := range []int{0, 1, n - 1} {
		p := off(t, n)
		s, e := p.Read(at)
		wantNone(t, "Read, off", s, e, api.ErrPower)
		wantErr(t, "Write, off", p.Write(at, sector('w')), api.ErrPower)
		wantHeld(t, p, at, sector(0))
		lay(t, p, at, 'l')
		wantHeld(t, p, at, sector('l'))
		spoil(t, p, at)
		wantSpoilt(t, p, at)
		wantUp(t, p, false)
		wantCounts(t, p, 0, 0)
		p.Start(nil)
		s, e = p.Read(at)
		wantNone(t, "Read of what was spoilt while off", s, e, api.ErrSector)
	}
	p := off(t, n)
	wantOutside(t, p, n, api.ErrPower)
}

// 4.2 to 4.5: a device of no sectors has none at all, and its power goes and comes like another's.
func TestNoSectors(t *testing.T) {
	p := device(t, 0)
	s, e := p.Read(0)
	wantNone(t, "Read", s, e, api.ErrRange)
	s, e = p.Held(0)
	wantNone(t, "Held", s, e, api.ErrRange)
	wantErr(t, "Arm", p.Arm(0), api.OK)
	wantErr(t, "Write", p.Write(0, sector('w')), api.ErrRange)
	wantErr(t, "Lay", p.Lay(0, sector('l')), api.ErrRange)
	wantErr(t, "Spoil", p.Spoil(0), api.ErrRange)
	flush(t, p)
	p.Start([]bool{true})
	wantUp(t, p, true)
	if q := p.Copy(); q == nil || q.Sectors() != 0 || !q.Up() {
		t.Fatal("a copy of a device of no sectors is another one")
	}
}

// 4.3, 4.5: a sector has 64 bytes; which error is told first.
func TestLengths(t *testing.T) {
	for _, n := range []int{0, 1, 63, 65, 128, 512} {
		s := strings.Repeat("s", n)
		p := device(t, 2)
		for _, at := range []int{0, 1, 2, -1} {
			wantErr(t, "Write of a wrong length", p.Write(at, s), api.ErrArg)
			wantErr(t, "Lay of a wrong length", p.Lay(at, s), api.ErrArg)
		}
		wantErr(t, "Arm", p.Arm(0), api.OK)
		wantErr(t, "Write of a wrong length ahead of the fuse", p.Write(0, s), api.ErrArg)
		wantUp(t, p, true)
		cut(t, p)
		wantErr(t, "Write of a wrong length, off", p.Write(0, s), api.ErrArg)
		wantErr(t, "Lay of a wrong length, off", p.Lay(0, s), api.ErrArg)
		wantBlank(t, p, 2)
		wantPending(t, p, 0)
		wantCounts(t, p, 0, 0)
	}
}

// 4.3: a sector is 64 bytes of any kind, told as they were written, each byte in its place.
func TestBytes(t *testing.T) {
	p := device(t, 4)
	for at := range 4 {
		bytes := make([]byte, 64)
		for i := range bytes {
			bytes[i] = byte(64*at + i)
		}
		s := string(bytes)
		wantErr(t, "Write", p.Write(at, s), api.OK)
		wantRead(t, p, at, s)
		flush(t, p)
		wantHeld(t, p, at, s)
		wantRead(t, p, at, s)
	}
}

// 4.2, 4.3: of several waiting writes the last one is read, and kept.
func TestWaiting(t *testing.T) {
	p := device(t, 3)
	write(t, p, 0, 'a')
	write(t, p, 1, 'b')
	write(t, p, 0, 'c')
	write(t, p, 2, 'd')
	write(t, p, 0, 'e')
	write(t, p, 2, 0)
	wantPending(t, p, 6)
	for at, b := range []byte{'e', 'b', 0} {
		wantRead(t, p, at, sector(b))
	}
	wantBlank(t, p, 3)
	flush(t, p)
	wantPending(t, p, 0)
	for at, b := range []byte{'e', 'b', 0} {
		wantRead(t, p, at, sector(b))
		wantHeld(t, p, at, sector(b))
	}
	flush(t, p)
	write(t, p, 1, 'f')
	wantPending(t, p, 1)
	wantRead(t, p, 0, sector('e'))
	wantRead(t, p, 1, sector('f'))
	wantHeld(t, p, 1, sector('b'))
}

// 4.3: with the power off nothing is flushed, and what waited waits on.
func TestFlushOff(t *testing.T) {
	p := device(t, 2)
	write(t, p, 0, 'a')
	write(t, p, 1, 'b')
	cut(t, p)
	wantErr(t, "Flush, off", p.Flush(), api.ErrPower)
	wantPending(t, p, 2)
	wantBlank(t, p, 2)
	p.Start([]bool{false, true})
	wantRead(t, p, 0, sector(0))
	wantRead(t, p, 1, sector('b'))
}

// 4.4: of the waiting writes those are kept that are told, in order, whether the power is on or off.
func TestStart(t *testing.T) {
	yes, no := true, false
	for _, c := range []struct {
		keep []bool
		want [3]byte
	}{
		{nil, [3]byte{}},
		{[]bool{}, [3]byte{}},
		{[]bool{no, no, no, no}, [3]byte{}},
		{[]bool{yes}, [3]byte{'a', 0, 0}},
		{[]bool{no, yes}, [3]byte{0, 'b', 0}},
		{[]bool{yes, yes}, [3]byte{'a', 'b', 0}},
		{[]bool{yes, no, yes}, [3]byte{'c', 0, 0}},
		{[]bool{no, no, yes}, [3]byte{'c', 0, 0}},
		{[]bool{yes, no, no, yes}, [3]byte{'a', 0, 'd'}},
		{[]bool{yes, yes, yes, yes}, [3]byte{'c', 'b', 'd'}},
		{[]bool{yes, yes, yes, yes, yes, yes, no}, [3]byte{'c', 'b', 'd'}},
		{[]bool{no, no, no, no, yes, yes, yes}, [3]byte{}},
		{[]bool{no, yes, no, yes, no, yes}, [3]byte{0, 'b', 'd'}},
	} {
		for _, down := range []bool{false, true} {
			p := device(t, 3)
			for i, at := range []int{0, 1, 0, 2} {
				write(t, p, at, byte('a'+i))
			}
			if down {
				cut(t, p)
			}
			wantPending(t, p, 4)
			p.Start(c.keep)
			wantUp(t, p, true)
			wantPending(t, p, 0)
			for at, b := range c.want {
				wantHeld(t, p, at, sector(b))
				wantRead(t, p, at, sector(b))
			}
		}
	}
}

// 4.4: what is told to be kept is not changed, and is not asked any more later on.
func TestStartKeep(t *testing.T) {
	p := device(t, 1)
	row := []bool{false, true, true}
	write(t, p, 0, 'a')
	p.Start(row[:1])
	wantRead(t, p, 0, sector(0))
	if row[0] || !row[1] || !row[2] {
		t.Fatalf("Start changed what it was told: %v", row)
	}
	row[0] = true
	wantRead(t, p, 0, sector(0))
	p.Start([]bool{true, true})
	wantRead(t, p, 0, sector(0))
}

// 4.4: the places of keep count from the first write that waits, not from the first one ever.
func TestStartBehindFlush(t *testing.T) {
	p := device(t, 2)
	write(t, p, 0, 'a')
	write(t, p, 1, 'b')
	flush(t, p)
	write(t, p, 0, 'c')
	write(t, p, 1, 'd')
	p.Start([]bool{false, true})
	wantRead(t, p, 0, sector('a'))
	wantRead(t, p, 1, sector('d'))
}

// 4.4, 4.3: so many writes are taken as the fuse says, and the next one ends the power.
func TestFuse(t *testing.T) {
	for _, n := range []int{0, 1, 2, 7} {
		p := device(t, 2)
		write(t, p, 0, 'a')
		wantErr(t, "Arm", p.Arm(n), api.OK)
		wantUp(t, p, true)
		for i := range n {
			write(t, p, i%2, byte(i))
			wantUp(t, p, true)
		}
		wantErr(t, "the write behind the last one", p.Write(1, sector('z')), api.ErrPower)
		wantUp(t, p, false)
		wantPending(t, p, n+1)
		wantCounts(t, p, 0, n+1)
		wantErr(t, "a write behind it", p.Write(0, sector('z')), api.ErrPower)
		wantErr(t, "Flush", p.Flush(), api.ErrPower)
		s, e := p.Read(0)
		wantNone(t, "Read", s, e, api.ErrPower)
		wantPending(t, p, n+1)
		wantCounts(t, p, 0, n+1)
		p.Start(nil)
		wantBlank(t, p, 2)
	}
}

// 4.3: a fuse at its end does nothing but to writes that could be taken.
func TestFuseAtItsEnd(t *testing.T) {
	p := device(t, 2)
	write(t, p, 0, 'a')
	wantErr(t, "Arm", p.Arm(0), api.OK)
	wantErr(t, "Write outside", p.Write(2, sector('b')), api.ErrRange)
	wantErr(t, "Write below", p.Write(-1, sector('b')), api.ErrRange)
	wantErr(t, "Write of 63 bytes", p.Write(0, sector('b')[1:]), api.ErrArg)
	wantRead(t, p, 0, sector('a'))
	flush(t, p)
	lay(t, p, 1, 'l')
	spoil(t, p, 1)
	wantUp(t, p, true)
	wantErr(t, "Write", p.Write(0, sector('c')), api.ErrPower)
	wantUp(t, p, false)
	wantHeld(t, p, 0, sector('a'))
}

// 4.3: writes that are refused do not burn the fuse, nor do reads, Flush, Lay and Spoil.
func TestFuseBurns(t *testing.T) {
	p := device(t, 2)
	wantErr(t, "Arm", p.Arm(2), api.OK)
	for range 5 {
		wantErr(t, "Write outside", p.Write(2, sector('b')), api.ErrRange)
		wantErr(t, "Write of nothing", p.Write(0, ""), api.ErrArg)
		wantRead(t, p, 0, sector(0))
		lay(t, p, 1, 'l')
		spoil(t, p, 1)
		flush(t, p)
	}
	write(t, p, 0, 'a')
	flush(t, p)
	write(t, p, 1, 'b')
	wantErr(t, "the third write", p.Write(0, sector('c')), api.ErrPower)
	wantHeld(t, p, 0, sector('a'))
}

// 4.4: Arm's errors, and which one is told first; a fuse that is refused is not set.
func TestArm(t *testing.T) {
	p := device(t, 1)
	wantErr(t, "Arm(1)", p.Arm(1), api.OK)
	for _, n := range []int{-1, -2, math.MinInt} {
		wantErr(t, "Arm below 0", p.Arm(n), api.ErrArg)
	}
	write(t, p, 0, 'a')
	wantErr(t, "the second write", p.Write(0, sector('b')), api.ErrPower)
	wantErr(t, "Arm(5), off", p.Arm(5), api.ErrPower)
	wantErr(t, "Arm(0), off", p.Arm(0), api.ErrPower)
	wantErr(t, "Arm(-1), off", p.Arm(-1), api.ErrArg)
	wantUp(t, p, false)
	wantErr(t, "Write, off", p.Write(0, sector('b')), api.ErrPower)
	p.Start(nil)
	for range 20 {
		write(t, p, 0, 'c')
	}
}

// 4.4: a fuse takes the place of the one that was there: longer, or shorter.
func TestArmAnew(t *testing.T) {
	p := device(t, 1)
	wantErr(t, "Arm(0)", p.Arm(0), api.OK)
	wantErr(t, "Arm(3)", p.Arm(3), api.OK)
	write(t, p, 0, 'a')
	write(t, p, 0, 'b')
	wantErr(t, "Arm(2)", p.Arm(2), api.OK)
	write(t, p, 0, 'c')
	write(t, p, 0, 'd')
	wantErr(t, "the third write", p.Write(0, sector('e')), api.ErrPower)
	p.Start(nil)
	wantErr(t, "Arm(9)", p.Arm(9), api.OK)
	wantErr(t, "Arm(1)", p.Arm(1), api.OK)
	write(t, p, 0, 'f')
	wantErr(t, "the second write", p.Write(0, sector('g')), api.ErrPower)
	p.Start(nil)
	wantErr(t, "Arm of the greatest", p.Arm(math.MaxInt), api.OK)
	write(t, p, 0, 'h')
	wantUp(t, p, true)
}

// 4.4: no fuse is left behind Start, whether it was burnt or not.
func TestArmAheadOfStart(t *testing.T) {
	for _, n := range []int{0, 1, 3} {
		p := device(t, 1)
		wantErr(t, "Arm", p.Arm(n), api.OK)
		p.Start(nil)
		for range n + 5 {
			write(t, p, 0, 'a')
		}
		wantUp(t, p, true)
	}
}

// 4.5: what waits is not touched by Lay and Spoil: Read tells it, Held what is kept, and Flush keeps it.
func TestDamageBelowWaiting(t *testing.T) {
	p := device(t, 2)
	write(t, p, 0, 'w')
	write(t, p, 1, 'v')
	lay(t, p, 0, 'l')
	spoil(t, p, 1)
	wantPending(t, p, 2)
	wantRead(t, p, 0, sector('w'))
	wantHeld(t, p, 0, sector('l'))
	wantRead(t, p, 1, sector('v'))
	wantSpoilt(t, p, 1)

	lost := p.Copy()
	lost.Start(nil)
	wantRead(t, lost, 0, sector('l'))
	s, e := lost.Read(1)
	wantNone(t, "Read of a spoilt sector", s, e, api.ErrSector)

	half := p.Copy()
	half.Start([]bool{false, true})
	wantRead(t, half, 0, sector('l'))
	wantRead(t, half, 1, sector('v'))
	wantHeld(t, half, 1, sector('v'))

	flush(t, p)
	wantRead(t, p, 0, sector('w'))
	wantHeld(t, p, 0, sector('w'))
	wantRead(t, p, 1, sector('v'))
	wantHeld(t, p, 1, sector('v'))
}

// 4.5, 4.3: a spoilt sector can be read again by what is laid, or written and kept, not by a write that is lost.
func TestSpoiltAndBack(t *testing.T) {
	p := device(t, 1)
	spoil(t, p, 0)
	spoil(t, p, 0)
	wantSpoilt(t, p, 0)
	write(t, p, 0, 'a')
	wantRead(t, p, 0, sector('a'))
	wantSpoilt(t, p, 0)
	p.Start([]bool{false})
	wantSpoilt(t, p, 0)
	write(t, p, 0, 'b')
	p.Start([]bool{true})
	wantHeld(t, p, 0, sector('b'))
	spoil(t, p, 0)
	lay(t, p, 0, 0)
	wantHeld(t, p, 0, sector(0))
	wantRead(t, p, 0, sector(0))
	spoil(t, p, 0)
	write(t, p, 0, 'c')
	flush(t, p)
	wantHeld(t, p, 0, sector('c'))
}

// 4.6: which calls count: reads and writes that are taken, a read that tells ErrSector among them.
func TestCounts(t *testing.T) {
	p := device(t, 2)
	for at := range 4 {
		p.Held(at)
		p.Lay(at, sector('l'))
	}
	p.Spoil(1)
	p.Flush()
	p.Arm(7)
	p.Start([]bool{true})
	p.Copy().Read(0)
	p.Copy().Write(0, sector('w'))
	wantCounts(t, p, 0, 0)
	wantRead(t, p, 0, sector('l'))
	wantCounts(t, p, 1, 0)
	s, e := p.Read(1)
	wantNone(t, "Read of a spoilt sector", s, e, api.ErrSector)
	wantCounts(t, p, 2, 0)
	p.Read(2)
	p.Read(-1)
	wantCounts(t, p, 2, 0)
	write(t, p, 1, 'w')
	wantRead(t, p, 1, sector('w'))
	wantCounts(t, p, 3, 1)
	p.Write(2, sector('w'))
	p.Write(0, "")
	wantCounts(t, p, 3, 1)
	flush(t, p)
	wantCounts(t, p, 3, 1)
	cut(t, p)
	p.Read(0)
	wantCounts(t, p, 3, 1)
	p.Start(nil)
	wantCounts(t, p, 3, 1)
	write(t, p, 1, 'w')
	write(t, p, 1, 'w')
	p.Start(nil)
	wantCounts(t, p, 3, 3)
}

// 4.6: a copy tells what the first one tells, what waits, the fuse, the power and the counts included.
func TestCopy(t *testing.T) {
	p := device(t, 3)
	write(t, p, 0, 'a')
	flush(t, p)
	spoil(t, p, 2)
	wantErr(t, "Arm", p.Arm(3), api.OK)
	write(t, p, 0, 'b')
	write(t, p, 1, 'c')
	wantRead(t, p, 0, sector('b'))

	q := p.Copy()
	if q == nil || q == p || q.Sectors() != 3 {
		t.Fatal("Copy is not another device of as many sectors")
	}
	for _, d := range []*plate.Plate{p, q} {
		wantUp(t, d, true)
		wantPending(t, d, 2)
		wantCounts(t, d, 1, 3)
		wantRead(t, d, 0, sector('b'))
		wantHeld(t, d, 0, sector('a'))
		wantRead(t, d, 1, sector('c'))
		wantHeld(t, d, 1, sector(0))
		wantSpoilt(t, d, 2)
		write(t, d, 2, 'd')
		wantErr(t, "the write behind the fuse", d.Write(0, sector('e')), api.ErrPower)
		r := d.Copy()
		wantUp(t, r, false)
		wantPending(t, r, 3)
		r.Start([]bool{true, false, true})
		wantRead(t, r, 0, sector('b'))
		wantRead(t, r, 1, sector(0))
		wantRead(t, r, 2, sector('d'))
	}
}

// 4.6: what is done to one of two copies is not seen in the other one.
func TestCopyApart(t *testing.T) {
	for _, turn := range []bool{false, true} {
		p := device(t, 3)
		write(t, p, 0, 'a')
		write(t, p, 1, 'b')
		q := p.Copy()
		if turn {
			p, q = q, p
		}
		write(t, q, 0, 'x') // in the place behind the two that wait
		write(t, q, 2, 'y')
		wantRead(t, q, 0, sector('x'))
		write(t, p, 2, 'c')
		wantRead(t, p, 0, sector('a'))
		wantRead(t, p, 2, sector('c'))
		wantRead(t, q, 0, sector('x'))
		wantRead(t, q, 2, sector('y'))
		wantPending(t, p, 3)
		wantPending(t, q, 4)
		lay(t, q, 0, 'l')
		spoil(t, q, 1)
		wantBlank(t, p, 3)
		flush(t, q)
		wantBlank(t, p, 3)
		wantPending(t, p, 3)
		cut(t, q)
		wantUp(t, p, true)
		write(t, p, 1, 'd')
		wantCounts(t, p, 2, 4)
		wantCounts(t, q, 3, 4)
		q.Start(nil)
		wantRead(t, p, 1, sector('d'))
		flush(t, p)
		for at, b := range []byte{'a', 'd', 'c'} {
			wantHeld(t, p, at, sector(b))
		}
		for at, b := range []byte{'x', 'b', 'y'} {
			wantHeld(t, q, at, sector(b))
		}
	}
}

// 4.7: what was flushed stays, whatever waits and fails.
func TestFlushedStays(t *testing.T) {
	p := device(t, 2)
	write(t, p, 0, 'a')
	write(t, p, 1, 'b')
	flush(t, p)
	for i := range 10 {
		wantErr(t, "Arm", p.Arm(i), api.OK)
		for range i {
			write(t, p, 0, byte(i))
		}
		wantErr(t, "Write at the fuse's end", p.Write(1, sector(byte(i))), api.ErrPower)
		wantErr(t, "Flush, off", p.Flush(), api.ErrPower)
		p.Start(make([]bool, i))
		wantRead(t, p, 0, sector('a'))
		wantRead(t, p, 1, sector('b'))
	}
}

// R3: a text that is told stays what it was, whatever is done with the device behind it.
func TestToldStays(t *testing.T) {
	p := device(t, 1)
	write(t, p, 0, 'a')
	waiting, _ := p.Read(0)
	flush(t, p)
	kept, _ := p.Held(0)
	write(t, p, 0, 'b')
	flush(t, p)
	lay(t, p, 0, 'c')
	spoil(t, p, 0)
	if waiting != sector('a') || kept != sector('a') {
		t.Fatalf("what was told became %q and %q", waiting, kept)
	}
}

// Chapter 4, 'Errors': every call of a nil device, at right and at wrong arguments.
func TestNil(t *testing.T) {
	var p *plate.Plate
	for _, at := range []int{-1, 0, 1} {
		for _, s := range []string{"", sector('x')} {
			wantErr(t, "Write", p.Write(at, s), api.ErrArg)
			wantErr(t, "Lay", p.Lay(at, s), api.ErrArg)
		}
		s, e := p.Read(at)
		wantNone(t, "Read", s, e, api.ErrArg)
		s, e = p.Held(at)
		wantNone(t, "Held", s, e, api.ErrArg)
		wantErr(t, "Spoil", p.Spoil(at), api.ErrArg)
		wantErr(t, "Arm", p.Arm(at), api.ErrArg)
	}
	wantErr(t, "Flush", p.Flush(), api.ErrArg)
	p.Start(nil)
	p.Start([]bool{true})
	wantUp(t, p, false)
	wantPending(t, p, 0)
	wantCounts(t, p, 0, 0)
	if p.Sectors() != 0 || p.Copy() != nil {
		t.Fatal("a nil device has sectors, or a copy")
	}
}

// R1: a device that New did not make is refused what it is asked, and no call of it panics.
func TestZero(t *testing.T) {
	p := new(plate.Plate)
	wantUp(t, p, false)
	s, e := p.Read(0)
	wantNone(t, "Read", s, e, api.ErrPower)
	s, e = p.Held(0)
	wantNone(t, "Held", s, e, api.ErrRange)
	wantErr(t, "Write", p.Write(0, sector('x')), api.ErrPower)
	wantErr(t, "Flush", p.Flush(), api.ErrPower)
	wantErr(t, "Arm", p.Arm(0), api.ErrPower)
	wantErr(t, "Lay", p.Lay(0, sector('x')), api.ErrRange)
	wantErr(t, "Spoil", p.Spoil(0), api.ErrRange)
	q := p.Copy()
	q.Start([]bool{true})
	wantUp(t, q, true)
	wantErr(t, "Write behind Start", q.Write(0, sector('x')), api.ErrRange)
	wantUp(t, p, false)
}

// The chapter's examples; the first one is also DOC.md's fourth.
func TestExamples(t *testing.T) {
	x := sector('x')
	p := device(t, 2)
	wantErr(t, "Write", p.Write(0, x), api.OK)
	p.Start(nil)
	wantRead(t, p, 0, sector(0))
	wantErr(t, "Write", p.Write(0, x), api.OK)
	p.Start([]bool{true})
	wantRead(t, p, 0, x)

	wantErr(t, "Arm(1)", p.Arm(1), api.OK)
	wantErr(t, "the first write", p.Write(0, x), api.OK)
	wantErr(t, "the second write", p.Write(1, x), api.ErrPower)
	wantUp(t, p, false)
}
