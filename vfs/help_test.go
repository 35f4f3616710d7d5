package vfs_test

import (
	"fmt"
	"math/rand"
	"reflect"
	"strings"
	"testing"

	"grapnel/api"
	"grapnel/plate"
	"grapnel/vault"
	"grapnel/vfs"
)

// noAnchor is that nothing is known from outside.
var noAnchor = api.Anchor{Epoch: -1}

func realVault(t testing.TB) *vault.Vault {
	t.Helper()
	v, e := vault.Real("pass phrase", "salt", 2)
	if e != api.OK {
		t.Fatalf("Real: error %d", e)
	}
	return v
}

// onVaults runs a test under a new vault of each kind.
func onVaults(t *testing.T, run func(t *testing.T, v *vault.Vault)) {
	for name, v := range map[string]*vault.Vault{"ideal": vault.Ideal(), "real": realVault(t)} {
		t.Run(name, func(t *testing.T) {
			t.Parallel()
			run(t, v)
		})
	}
}

// notGiven is vaults that neither vault.Real nor vault.Ideal gave.
func notGiven() []*vault.Vault { return []*vault.Vault{nil, {}} }

func newDevice(t testing.TB, sectors int) *plate.Plate {
	t.Helper()
	p, e := plate.New(sectors)
	if e != api.OK {
		t.Fatalf("plate.New(%d): error %d", sectors, e)
	}
	return p
}

// rubbish is a device of a living part whose sectors hold something already.
func rubbish(t testing.TB, live int) *plate.Plate {
	t.Helper()
	p := newDevice(t, sectorsOf(live))
	for i := range p.Sectors() {
		p.Lay(i, number(i+1, 4)+strings.Repeat("#", 60))
	}
	return p
}

// cut is a device whose power is off.
func cut(p *plate.Plate) *plate.Plate {
	p.Arm(0)
	p.Write(0, strings.Repeat("x", 64))
	return p
}

func mustMake(t testing.TB, p *plate.Plate, v *vault.Vault) {
	t.Helper()
	if e := vfs.Make(p, v, 7); e != api.OK {
		t.Fatalf("Make: error %d", e)
	}
}

func mustMount(t testing.TB, p *plate.Plate, v *vault.Vault) *vfs.FS {
	t.Helper()
	f, e := vfs.Mount(p, v, noAnchor)
	if e != api.OK || f == nil {
		t.Fatalf("Mount: error %d", e)
	}
	return f
}

// made is an empty file system on a device of a living part.
func made(t testing.TB, v *vault.Vault, live int) (*plate.Plate, *vfs.FS) {
	t.Helper()
	p := newDevice(t, sectorsOf(live))
	mustMake(t, p, v)
	return p, mustMount(t, p, v)
}

func mustDump(t testing.TB, f system) []api.Node {
	t.Helper()
	l, e := f.Dump()
	if e != api.OK {
		t.Fatalf("Dump: error %d", e)
	}
	return l
}

// want holds an error against the one that must be.
func want(t testing.TB, what string, e, must api.Errno) {
	t.Helper()
	if e != must {
		t.Fatalf("%s: error %d; want %d", what, e, must)
	}
}

// system is what a file system and a plain tree can both do.
type system interface {
	Mkdir(s string) api.Errno
	Create(s string) api.Errno
	Remove(s string) api.Errno
	Link(from, to string) api.Errno
	Rename(from, to string) api.Errno
	Symlink(to, s string) api.Errno
	Readlink(s string) (string, api.Errno)
	Stat(s string) (api.Stat, api.Errno)
	List(s string) ([]api.Entry, api.Errno)
	Open(s string) (int, api.Errno)
	Close(fd int) api.Errno
	Read(fd, at, n int) (string, api.Errno)
	Write(fd, at int, s string) api.Errno
	Trunc(fd, size int) api.Errno
	Sync() api.Errno
	Room() int
	Dump() ([]api.Node, api.Errno)
}

// act is a call: its name, its paths, its numbers; fd is a descriptor.
type act struct {
	call      string
	s, to     string
	fd, at, n int
}

// answer is what a call told.
type answer struct {
	e       api.Errno
	n       int
	text    string
	stat    api.Stat
	entries []api.Entry
}

// do does a call.
func do(f system, a act) (x answer) {
	switch a.call {
	case "mkdir":
		x.e = f.Mkdir(a.s)
	case "create":
		x.e = f.Create(a.s)
	case "remove":
		x.e = f.Remove(a.s)
	case "link":
		x.e = f.Link(a.s, a.to)
	case "rename":
		x.e = f.Rename(a.s, a.to)
	case "symlink":
		x.e = f.Symlink(a.to, a.s)
	case "readlink":
		x.text, x.e = f.Readlink(a.s)
	case "stat":
		x.stat, x.e = f.Stat(a.s)
	case "list":
		x.entries, x.e = f.List(a.s)
	case "open":
		x.n, x.e = f.Open(a.s)
	case "close":
		x.e = f.Close(a.fd)
	case "read":
		x.text, x.e = f.Read(a.fd, a.at, a.n)
	case "write":
		x.e = f.Write(a.fd, a.at, a.s)
	case "trunc":
		x.e = f.Trunc(a.fd, a.n)
	case "sync":
		x.e = f.Sync()
	}
	if len(x.entries) == 0 {
		x.entries = nil
	}
	return x
}

// both does a call of a file system and of the plain tree that it must be, and holds their answers and free blocks against each other.
func both(t testing.TB, f *vfs.FS, x *plain, a act) answer {
	t.Helper()
	got, must := do(f, a), do(x, a)
	if !reflect.DeepEqual(got, must) {
		t.Fatalf("%s: %s; a plain tree's %s", brief(a), brief(got), brief(must))
	}
	if f.Room() != x.Room() {
		t.Fatalf("Room behind %s: %d; a plain tree's %d", brief(a), f.Room(), x.Room())
	}
	return got
}

// alike holds a file system as a whole against a plain tree.
func alike(t testing.TB, what string, f *vfs.FS, x *plain) {
	t.Helper()
	got, must := mustDump(t, f), mustDump(t, x)
	if !reflect.DeepEqual(got, must) {
		t.Fatalf("%s: Dump: %s; a plain tree's: %s", what, brief(got), brief(must))
	}
	if f.Room() != x.Room() {
		t.Fatalf("%s: Room: %d; a plain tree's %d", what, f.Room(), x.Room())
	}
}

// brief is what something looks like, as far as a line has room for it.
func brief(x any) string {
	s := fmt.Sprintf("%+v", x)
	return s[:min(len(s), 1500)]
}

func upTo(first, n int) []int {
	var l []int
	for i := range n {
		l = append(l, first+i)
	}
	return l
}

// filled is n bytes that are not alike, others for each seed.
func filled(seed, n int) string {
	b := make([]byte, n)
	for i := range b {
		b[i] = byte(1 + (seed*131+i*7+i/251*13)%255)
	}
	return string(b)
}

// all is a keep of n writes.
func all(n int) []bool {
	l := make([]bool, n)
	for i := range l {
		l[i] = true
	}
	return l
}

// keeps is what may be kept of n writes that waited: nothing, all, all but one, one alone, the first and the last ones, every other one, and some by chance.
func keeps(n int, r *rand.Rand) [][]bool {
	if n == 0 {
		return [][]bool{nil}
	}
	but, alone := all(n), make([]bool, n)
	i := r.Intn(n)
	but[i], alone[i] = false, true
	half, rest, other, some := make([]bool, n), make([]bool, n), make([]bool, n), make([]bool, n)
	for i := range n {
		half[i], rest[i], other[i], some[i] = i < n/2, i >= n/2, i%2 == 0, r.Intn(2) == 0
	}
	return [][]bool{nil, all(n), but, alone, half, rest, other, some}
}
