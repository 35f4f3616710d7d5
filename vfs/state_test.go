package vfs_test

import (
	"math"
	"reflect"
	"testing"

	"grapnel/api"
	"grapnel/plate"
	"grapnel/vault"
	"grapnel/vfs"
)

// everyCall is each call that can tell an error, with arguments that are right and such as are not.
func everyCall() map[string]func(f *vfs.FS) answer {
	m := map[string]func(f *vfs.FS) answer{
		"leave": func(f *vfs.FS) answer { return answer{e: f.Leave()} },
		"dump": func(f *vfs.FS) answer {
			l, e := f.Dump()
			return answer{e: e, n: len(l)}
		},
	}
	for name, a := range map[string]act{
		"mkdir": {s: "/new"}, "create": {s: "/new"}, "remove": {s: "/y"}, "link": {s: "/y", to: "/new"}, "rename": {s: "/y", to: "/new"}, "symlink": {s: "/new", to: "/"}, "readlink": {s: "/l"}, "stat": {s: "/"}, "list": {s: "/"}, "open": {s: "/y"},
		"close": {}, "read": {n: 5}, "write": {s: "x"}, "trunc": {n: 4}, "sync": {},
	} {
		a.call = name
		m[name] = func(f *vfs.FS) answer { return do(f, a) }
		b := act{call: name, s: "no path", to: "none", fd: -1, at: -1, n: -1}
		m[name+", wrong"] = func(f *vfs.FS) answer { return do(f, b) }
	}
	return m
}

// wantDead is that every call tells this error, and nothing beside it.
func wantDead(t *testing.T, what string, f *vfs.FS, must api.Errno) {
	t.Helper()
	for name, call := range everyCall() {
		if got := call(f); !reflect.DeepEqual(got, answer{e: must}) {
			t.Fatalf("%s: %s: %v; want the error %d alone", what, name, got, must)
		}
	}
	if n := f.Room(); n != 0 {
		t.Fatalf("%s: Room %d", what, n)
	}
}

// 13.3, 13.8, R1: a nil file system, one that nobody mounted, one that was left.
func TestNotMounted(t *testing.T) {
	wantDead(t, "nil", nil, api.ErrState)
	wantDead(t, "not mounted", &vfs.FS{}, api.ErrState)
	for _, f := range []*vfs.FS{nil, {}} {
		if a := f.Anchor(); a != (api.Anchor{Epoch: -1}) {
			t.Fatalf("Anchor: %v", a)
		}
	}
	onVaults(t, func(t *testing.T, v *vault.Vault) {
		p, f := made(t, v, 48)
		fill(t, f)
		want(t, "Leave", f.Leave(), api.OK)
		a, was := f.Anchor(), p.Copy()
		wantDead(t, "left", f, api.ErrState)
		g := mustMount(t, p, v)
		wantDead(t, "left, and mounted by another", f, api.ErrState)
		if a.Epoch != 2 || f.Anchor() != a || g.Anchor() != (api.Anchor{Epoch: 3, Root: a.Root}) {
			t.Fatalf("Anchor: %v, then %v; of another %v", a, f.Anchor(), g.Anchor())
		}
		wantDead(t, "left, and the power is off", f, api.ErrState)
		if p.Writes() != was.Writes()+8 {
			t.Fatalf("%d writes", p.Writes()-was.Writes())
		}
	})
}

// 13.3: each call that finds the power off tells it; then the file system is not mounted any more, be the power on again or not.
func TestPowerOff(t *testing.T) {
	onVaults(t, func(t *testing.T, v *vault.Vault) {
		start := newDevice(t, sectorsOf(64))
		mustMake(t, start, v)
		f := mustMount(t, start, v)
		fill(t, f)
		want(t, "Leave", f.Leave(), api.OK)
		for name, call := range everyCall() {
			for _, changed := range []bool{false, true} {
				p := start.Copy()
				f := mustMount(t, p, v)
				if changed {
					want(t, "Create", f.Create("/more"), api.OK)
				}
				if _, e := f.Open("/y"); e != api.OK {
					t.Fatal(e)
				}
				a := f.Anchor()
				cut(p)
				if got := call(f); !reflect.DeepEqual(got, answer{e: api.ErrPower}) {
					t.Fatalf("%s with the power off: %v", name, got)
				}
				wantDead(t, "the power is off", f, api.ErrState)
				p.Start(nil)
				wantDead(t, "the power was off", f, api.ErrState)
				if f.Anchor() != a {
					t.Fatalf("Anchor: %v; was %v", f.Anchor(), a)
				}
				alikeBehind(t, p, v, start)
			}
		}
		p := start.Copy()
		f = mustMount(t, p, v)
		cut(p)
		if n := f.Room(); n != 0 {
			t.Fatalf("Room with the power off: %d", n)
		}
	})
}

// alikeBehind is that a device has the tree that another one has.
func alikeBehind(t *testing.T, p *plate.Plate, v *vault.Vault, must *plate.Plate) {
	t.Helper()
	x, _ := readDisk(t, must, v)
	alike(t, "behind the power's end", mustMount(t, p, v), x)
}

// R1, R2: arguments far out of their bounds, of every call.
func TestFarArguments(t *testing.T) {
	v := vault.Ideal()
	p, f := made(t, v, 64)
	x := newPlain(64)
	run(t, f, x, []act{{call: "create", s: "/a"}, {call: "open", s: "/a"}, {call: "write", at: 100, s: filled(1, 1000)}})
	far := []int{math.MinInt, math.MinInt + 1, -1 << 32, -1, 0, 1, 1024, 1025, maxSize, maxSize + 1, 1 << 32, 1<<48 - 1, math.MaxInt - 1024, math.MaxInt}
	for _, a := range far {
		for _, b := range far {
			for _, c := range far {
				both(t, f, x, act{call: "read", fd: a, at: b, n: c})
			}
			both(t, f, x, act{call: "write", fd: a, at: b, s: "x"})
			both(t, f, x, act{call: "write", fd: a, at: b})
			both(t, f, x, act{call: "write", fd: a, at: b, s: filled(1, 1025)})
			both(t, f, x, act{call: "trunc", fd: a, n: b})
		}
		if a != 0 {
			both(t, f, x, act{call: "close", fd: a})
		}
	}
	for _, s := range []string{"", "\x00", "/\x00", "/\xff", string(make([]byte, 1<<20)), "/" + string(make([]byte, 1<<20))} {
		for _, call := range []string{"mkdir", "create", "remove", "readlink", "stat", "list", "open", "link", "rename", "symlink"} {
			both(t, f, x, act{call: call, s: s, to: "/b"})
			if call != "symlink" {
				both(t, f, x, act{call: call, s: "/a/b", to: s})
			}
		}
	}
	leftAndMounted(t, p, v, f, x)
}
