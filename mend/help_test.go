package mend_test

import (
	"fmt"
	"math/rand"
	"reflect"
	"strconv"
	"strings"
	"testing"

	"grapnel/api"
	"grapnel/block"
	"grapnel/chart"
	"grapnel/mend"
	"grapnel/plate"
	"grapnel/vault"
	"grapnel/vfs"
)

var noAnchor = api.Anchor{Epoch: -1}

func realVault(t testing.TB) *vault.Vault {
	t.Helper()
	v, e := vault.Real("pass phrase", "salt", 2)
	want(t, "vault.Real", e, api.OK)
	return v
}

// onVaults runs a test under a new vault of each kind.
func onVaults(t *testing.T, run func(t *testing.T, v *vault.Vault)) {
	for name, v := range map[string]*vault.Vault{"ideal": vault.Ideal(), "real": realVault(t)} {
		t.Run(name, func(t *testing.T) {
			t.Parallel()
			run(t, v)
		})
	}
}

// notGiven is vaults that neither vault.Real nor vault.Ideal gave.
func notGiven() []*vault.Vault { return []*vault.Vault{nil, {}} }

// want holds an error against the one that must be.
func want(t testing.TB, what string, e, must api.Errno) {
	t.Helper()
	if e != must {
		t.Fatalf("%s: error %d; want %d", what, e, must)
	}
}

// all does calls that must be OK.
func all(t testing.TB, calls ...api.Errno) {
	t.Helper()
	for i, e := range calls {
		if e != api.OK {
			t.Fatalf("the call %d: error %d", i, e)
		}
	}
}

// brief is what something looks like, as far as a line has room for it.
func brief(x any) string {
	s := fmt.Sprintf("%+v", x)
	return s[:min(len(s), 1500)]
}

// same holds two values against each other; an empty list is none.
func same(t testing.TB, what string, got, must any) {
	t.Helper()
	g, m := reflect.ValueOf(got), reflect.ValueOf(must)
	if g.Kind() == reflect.Slice && g.Len() == 0 && m.Len() == 0 {
		return
	}
	if !reflect.DeepEqual(got, must) {
		t.Fatalf("%s: %s; want %s", what, brief(got), brief(must))
	}
}

// sameReport holds two reports against each other.
func sameReport(t testing.TB, what string, got, must api.Report) {
	t.Helper()
	same(t, what+": Findings", got.Findings, must.Findings)
	got.Findings, must.Findings = nil, nil
	same(t, what, got, must)
}

func blank(n int) string { return strings.Repeat("\x00", n) }

// number is a number in bytes.
func number(n, width int) string {
	b := make([]byte, width)
	for i := range b {
		b[i] = byte(n >> (8 * i))
	}
	return string(b)
}

// filled is n bytes that are not alike, others for each seed.
func filled(seed, n int) string {
	b := make([]byte, n)
	for i := range b {
		b[i] = byte(1 + (seed*131+i*7+i/251*13)%255)
	}
	return string(b)
}

// with is s, its byte at a place another one.
func with(s string, at int) string {
	b := []byte(s)
	b[at] ^= 4
	return string(b)
}

func upTo(first, n int) []int {
	var l []int
	for i := range n {
		l = append(l, first+i)
	}
	return l
}

func layoutOf(t testing.TB, live int) api.Layout {
	t.Helper()
	l, e := chart.Layout(live)
	want(t, "chart.Layout", e, api.OK)
	return l
}

func newDevice(t testing.TB, sectors int) *plate.Plate {
	t.Helper()
	p, e := plate.New(sectors)
	want(t, "plate.New", e, api.OK)
	return p
}

// cut is a device whose power is off.
func cut(p *plate.Plate) *plate.Plate {
	p.Arm(0)
	p.Write(0, blank(64))
	return p
}

// made is an empty file system on a device of a living part.
func made(t testing.TB, v *vault.Vault, live int) *plate.Plate {
	t.Helper()
	p := newDevice(t, 8*layoutOf(t, live).Total)
	want(t, "Make", vfs.Make(p, v, 7), api.OK)
	return p
}

func mounted(t testing.TB, p *plate.Plate, v *vault.Vault) *vfs.FS {
	t.Helper()
	f, e := vfs.Mount(p, v, noAnchor)
	want(t, "Mount", e, api.OK)
	return f
}

// fill writes texts into a file at the beginnings of indices.
func fill(t testing.TB, f *vfs.FS, s string, indices ...int) {
	t.Helper()
	fd, e := f.Open(s)
	want(t, "Open", e, api.OK)
	for _, index := range indices {
		all(t, f.Write(fd, 448*index, s+" "+strconv.Itoa(index)))
	}
	all(t, f.Close(fd))
}

// stored is a file system with some files, left.
func stored(t testing.TB, v *vault.Vault, live int) *plate.Plate {
	t.Helper()
	p := made(t, v, live)
	f := mounted(t, p, v)
	all(t, f.Mkdir("/d"), f.Create("/d/a"), f.Create("/b"), f.Symlink("/d/a", "/s"))
	fill(t, f, "/d/a", 0, 2)
	fill(t, f, "/b", 0)
	all(t, f.Link("/b", "/d/b"), f.Leave())
	return p
}

// overwrite lays other bytes over blocks.
func overwrite(t testing.TB, p *plate.Plate, addresses ...int) {
	t.Helper()
	for _, at := range addresses {
		for i := range 8 {
			all(t, p.Lay(8*at+i, filled(8*at+i, 64)))
		}
	}
}

// layAt lays a block.
func layAt(t testing.TB, p *plate.Plate, at int, raw string) {
	t.Helper()
	for i := range 8 {
		all(t, p.Lay(8*at+i, raw[64*i:64*i+64]))
	}
}

// bare is what a device says when nothing waits any more.
func bare(p *plate.Plate) api.Image {
	q := p.Copy()
	q.Start(nil)
	return block.All(q)
}

// wantAlike holds two devices against each other: what is kept, what waits, and what was counted.
func wantAlike(t testing.TB, what string, got, must *plate.Plate) {
	t.Helper()
	if got.Sectors() != must.Sectors() || got.Up() != must.Up() || got.Pending() != must.Pending() || got.Writes() != must.Writes() {
		t.Fatalf("%s: %d sectors, power %t, %d wait, %d writes; want %d, %t, %d, %d", what, got.Sectors(), got.Up(), got.Pending(), got.Writes(), must.Sectors(), must.Up(), must.Pending(), must.Writes())
	}
	wantKept(t, what, got, must, got.Sectors())
	// What waits is the same, if the same is there of every other write.
	for k := range 2 {
		a, b := got.Copy(), must.Copy()
		a.Start(each(2, k, got.Pending()))
		b.Start(each(2, k, got.Pending()))
		wantKept(t, what+", of what waits", a, b, got.Sectors())
	}
}

// wantKept holds what is kept of the first sectors of two devices against each other.
func wantKept(t testing.TB, what string, got, must *plate.Plate, sectors int) {
	t.Helper()
	for i := range sectors {
		s, e := got.Held(i)
		r, f := must.Held(i)
		if s != r || e != f {
			t.Fatalf("%s: the sector %d (of the block %d) holds %q, error %d; want %q, error %d", what, i, i/8, s, e, r, f)
		}
	}
}

// each is a keep of n writes that has true at each k-th place.
func each(k, first, n int) []bool {
	l := make([]bool, n)
	for i := range l {
		l[i] = i%k == first
	}
	return l
}

// keeps is what may be kept of n writes that waited: nothing, all, all but one, one alone, the first and the last ones, every other one, and some by chance.
func keeps(n int, r *rand.Rand) [][]bool {
	if n == 0 {
		return [][]bool{nil}
	}
	i := r.Intn(n)
	but, alone, half, rest, some := each(1, 0, n), each(n, i, n), make([]bool, n), make([]bool, n), make([]bool, n)
	but[i] = false
	for k := range n {
		half[k], rest[k], some[k] = k < n/2, k >= n/2, r.Intn(2) == 0
	}
	return [][]bool{nil, each(1, 0, n), but, alone, half, rest, each(2, 0, n), some}
}

// anyOf is one of some, by chance.
func anyOf[T any](r *rand.Rand, l []T) T { return l[r.Intn(len(l))] }

// repair is a Repair that must be OK.
func repair(t testing.TB, what string, p *plate.Plate, v *vault.Vault) api.Report {
	t.Helper()
	got, e := mend.Repair(p, v)
	want(t, what+": Repair", e, api.OK)
	return got
}

// wantWhole is that a device is whole: what another repair finds is nothing, and it writes nothing; the file system on it can be mounted and dumped. It tells what is in it.
func wantWhole(t testing.TB, what string, p *plate.Plate, v *vault.Vault) []api.Node {
	t.Helper()
	was := p.Copy()
	for name, call := range map[string]func(*plate.Plate, *vault.Vault) (api.Report, api.Errno){"Repair": mend.Repair, "Check": mend.Check} {
		r, e := call(p, v)
		if e != api.OK || r.Written != 0 || len(r.Findings) != 0 {
			t.Fatalf("%s: another %s: %v, error %d", what, name, r, e)
		}
		wantAlike(t, what+": another "+name, p, was)
	}
	f, e := vfs.Mount(was, v, noAnchor)
	want(t, what+": Mount", e, api.OK)
	l, e := f.Dump()
	want(t, what+": Dump", e, api.OK)
	return l
}
