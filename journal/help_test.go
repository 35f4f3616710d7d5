package journal_test

import (
	"math/rand"
	"strings"
	"testing"
	"unsafe"

	"grapnel/api"
	"grapnel/journal"
	"grapnel/plate"
	"grapnel/vault"
)

func realVault(t testing.TB) *vault.Vault {
	t.Helper()
	v, e := vault.Real("pass phrase", "salt", 2)
	if e != api.OK {
		t.Fatalf("Real: error %d", e)
	}
	return v
}

// onVaults runs a test under a new vault of each kind.
func onVaults(t *testing.T, run func(t *testing.T, v *vault.Vault)) {
	for name, v := range map[string]*vault.Vault{"ideal": vault.Ideal(), "real": realVault(t)} {
		t.Run(name, func(t *testing.T) {
			t.Parallel()
			run(t, v)
		})
	}
}

// notGiven is vaults that neither vault.Real nor vault.Ideal gave.
func notGiven() []*vault.Vault { return []*vault.Vault{nil, {}} }

func newDevice(t *testing.T, n int) *plate.Plate {
	t.Helper()
	p, e := plate.New(n)
	if e != api.OK {
		t.Fatalf("plate.New(%d): error %d", n, e)
	}
	return p
}

// device is one of a living part, each of its sectors another one.
func device(t *testing.T, live int) *plate.Plate {
	t.Helper()
	p := newDevice(t, sectors(live))
	for i := range sectors(live) {
		p.Lay(i, sector(i))
	}
	return p
}

// sector is what a device has at a place that nothing was written to.
func sector(i int) string { return number(i+1, 4) + strings.Repeat("#", 60) }

// cut is a device whose power is off.
func cut(p *plate.Plate) *plate.Plate {
	p.Arm(0)
	p.Write(0, strings.Repeat("x", 64))
	return p
}

// root is a root of a superblock, another one for each seed.
func root(seed int) string { return number(seed, 6) + strings.Repeat("r", 26) }

// super is a superblock of ordinary numbers.
func super(epoch, live int) api.Super {
	return api.Super{Volume: 7, Epoch: epoch, Next: 10 + epoch%1000, Live: live, Root: root(epoch)}
}

// written is a block for an address, of bytes that hang on a seed.
func written(at, seed int) api.Write {
	h := api.Head{Volume: 7, Address: at, Kind: 1 + (at+seed)%9, Ino: 5, Gen: seed, Index: at, Version: seed, Salt: 1}
	b := make([]byte, 464)
	for i := range b {
		b[i] = byte(i) ^ byte(i/64) ^ byte(29*seed) ^ byte(7*at)
	}
	return api.Write{Address: at, Raw: headText(h) + string(b)}
}

// writes is blocks for these addresses.
func writes(seed int, addresses ...int) []api.Write {
	var ws []api.Write
	for _, at := range addresses {
		ws = append(ws, written(at, seed))
	}
	return ws
}

// upTo is n addresses from the first one on.
func upTo(first, n int) []int {
	var l []int
	for i := range n {
		l = append(l, first+i)
	}
	return l
}

// with is s, its byte at a place another one.
func with(s string, at int) string {
	b := []byte(s)
	b[at] ^= 0x40
	return string(b)
}

func format(t *testing.T, p *plate.Plate, v *vault.Vault, s api.Super) {
	t.Helper()
	if e := journal.Format(p, v, s); e != api.OK {
		t.Fatalf("Format of %v: error %d", s, e)
	}
}

func commit(t *testing.T, p *plate.Plate, v *vault.Vault, ws []api.Write, next api.Super) {
	t.Helper()
	if e := journal.Commit(p, v, ws, next); e != api.OK {
		t.Fatalf("Commit of %d blocks with %v: error %d", len(ws), next, e)
	}
}

// laid is a device on which a superblock was laid.
func laid(t *testing.T, v *vault.Vault, s api.Super) *plate.Plate {
	t.Helper()
	p := device(t, s.Live)
	format(t, p, v, s)
	return p
}

// wantAlike holds two devices against each other: what is kept, what waits, and what was counted.
func wantAlike(t *testing.T, what string, got, want *plate.Plate) {
	t.Helper()
	if got.Sectors() != want.Sectors() || got.Up() != want.Up() || got.Pending() != want.Pending() || got.Writes() != want.Writes() {
		t.Fatalf("%s: %d sectors, power %t, %d wait, %d writes; want %d, %t, %d, %d", what, got.Sectors(), got.Up(), got.Pending(), got.Writes(), want.Sectors(), want.Up(), want.Pending(), want.Writes())
	}
	wantKept(t, what, got, want)
	one := make([]bool, want.Pending())
	for i := range one {
		one[i] = i%3 == want.Pending()%3
	}
	for _, keep := range [][]bool{all(want.Pending()), one} {
		a, b := got.Copy(), want.Copy()
		a.Start(keep)
		b.Start(keep)
		wantKept(t, what+", of what waits", a, b)
	}
}

func wantKept(t *testing.T, what string, got, want *plate.Plate) {
	t.Helper()
	for i := range want.Sectors() {
		s, e := got.Held(i)
		r, f := want.Held(i)
		if s != r || e != f {
			t.Fatalf("%s: the sector %d holds %q, error %d; want %q, error %d", what, i, s, e, r, f)
		}
	}
}

// all is a keep of n writes.
func all(n int) []bool {
	l := make([]bool, n)
	for i := range l {
		l[i] = true
	}
	return l
}

// subset is the keep whose trues are the bits of a number.
func subset(bits, n int) []bool {
	l := make([]bool, n)
	for i := range l {
		l[i] = bits>>i&1 == 1
	}
	return l
}

// keeps is what may be kept of n writes that waited: nothing, all, all but one, one alone, the first and the last ones, every other one, and some by chance.
func keeps(n int, r *rand.Rand) [][]bool {
	out := [][]bool{nil, all(n)}
	if n == 0 {
		return out[:1]
	}
	for range 2 {
		but, alone := all(n), make([]bool, n)
		i := r.Intn(n)
		but[i], alone[i] = false, true
		out = append(out, but, alone)
	}
	half, rest, other, some := make([]bool, n), make([]bool, n), make([]bool, n), make([]bool, n)
	for i := range n {
		half[i], rest[i], other[i], some[i] = i < n/2, i >= n/2, i%2 == 0, r.Intn(2) == 0
	}
	return append(out, half, rest, other, some)
}

// wantUnnumbered tells whether an ideal vault has numbered nothing: its next hash and seal are the first.
func wantUnnumbered(t *testing.T, what string, v *vault.Vault) {
	t.Helper()
	s, e := v.Seal(9, blank(12), "never sealed", "")
	if h := v.Hash("never hashed"); h != number(1, 32) || s != number(1, 16) || e != api.OK {
		t.Fatalf("%s: the next hash %x, the next seal %x, error %d", what, h, s, e)
	}
}

// sameMemory tells whether a text's memory lies in another one's.
func sameMemory(part, whole string) bool {
	at, from := uintptr(unsafe.Pointer(unsafe.StringData(part))), uintptr(unsafe.Pointer(unsafe.StringData(whole)))
	return at >= from && at < from+uintptr(len(whole))
}
