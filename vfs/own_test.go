package vfs_test

import (
	"reflect"
	"strings"
	"testing"
	"unsafe"

	"grapnel/api"
	"grapnel/vault"
	"grapnel/vfs"
)

// lent is a text whose bytes are changed behind a call's back.
type lent struct{ b []byte }

func lend(s string) *lent { return &lent{b: []byte(s)} }

func (l *lent) text() string { return unsafe.String(unsafe.SliceData(l.b), len(l.b)) }

// R3: texts that are handed in are neither changed nor kept as they are.
func TestTextsAreNotKept(t *testing.T) {
	onVaults(t, func(t *testing.T, v *vault.Vault) {
		p, f := made(t, v, 64)
		x := newPlain(64)
		for _, a := range []act{
			{call: "create", s: "/file"}, {call: "mkdir", s: "/dir"}, {call: "symlink", s: "/dir/sym", to: "/file"}, {call: "link", s: "/file", to: "/dir/link"}, {call: "rename", s: "/dir/link", to: "/dir/moved"}, {call: "open", s: "/dir/sym"},
			{call: "write", s: filled(1, 448)}, {call: "write", at: 448, s: filled(2, 900)}, {call: "write", at: 2000, s: filled(3, 7)}, {call: "readlink", s: "/dir/sym"}, {call: "stat", s: "/file"}, {call: "list", s: "/dir"}, {call: "create", s: "/file"},
		} {
			s, to := lend(a.s), lend(a.to)
			b := a
			b.s, b.to = s.text(), to.text()
			got, must := do(f, b), do(x, a)
			if !reflect.DeepEqual(got, must) {
				t.Fatalf("%v: %v; want %v", a, got, must)
			}
			if string(s.b) != a.s || string(to.b) != a.to {
				t.Fatalf("%v: what was handed in is %q, %q", a, s.b, to.b)
			}
			clear(s.b)
			clear(to.b)
			alike(t, "behind a change of what was handed in", f, x)
		}
		leftAndMounted(t, p, v, f, x)
	})
}

// R3: the anchor that is handed in is not kept, and the one that is handed out is the asker's own.
func TestAnchorOwn(t *testing.T) {
	v := vault.Ideal()
	p, f := made(t, v, 64)
	want(t, "Leave", f.Leave(), api.OK)
	root := lend(f.Anchor().Root)
	g, e := vfs.Mount(p, v, api.Anchor{Epoch: 1, Root: root.text()})
	want(t, "Mount", e, api.OK)
	clear(root.b)
	if g.Anchor().Root != f.Anchor().Root || g.Anchor().Root == blank(32) {
		t.Fatalf("Anchor: %v", g.Anchor())
	}
	a, b := g.Anchor().Root, g.Anchor().Root
	if unsafe.StringData(a) == unsafe.StringData(b) {
		t.Fatal("two answers share their root's memory")
	}
}

// R3: lists that were handed out are the asker's own.
func TestListsOwn(t *testing.T) {
	v := vault.Ideal()
	p, f := made(t, v, 64)
	x := newPlain(64)
	run(t, f, x, []act{{call: "mkdir", s: "/d"}, {call: "create", s: "/d/a"}, {call: "create", s: "/d/b"}, {call: "symlink", s: "/d/c", to: "/d"}})
	for _, synced := range []bool{false, true} {
		l, _ := f.List("/d")
		for i := range l {
			l[i] = api.Entry{Name: "changed", Ino: 99, Gen: 99}
		}
		_ = append(l[:0], api.Entry{Name: "more"}, api.Entry{}, api.Entry{}, api.Entry{}, api.Entry{})
		d := mustDump(t, f)
		for i := range d {
			d[i] = api.Node{Path: "changed"}
		}
		alike(t, "behind a change of lists that were handed out", f, x)
		run(t, f, x, []act{{call: "list", s: "/d"}})
		if !synced {
			want(t, "Sync", f.Sync(), api.OK)
		}
	}
	leftAndMounted(t, p, v, f, x)
}

// R2, R4: two file systems that are asked the same tell the same, whatever map stands behind them; what is asked changes nothing.
func TestSameAnswers(t *testing.T) {
	var told [2][]answer
	var anchors [2]api.Anchor
	for i := range 2 {
		v := vault.Ideal()
		p, f := made(t, v, 80)
		c := newChance(9, 6, true)
		x := newPlain(80)
		for range 400 {
			c.full = true
			a := c.act(x)
			do(x, a)
			told[i] = append(told[i], do(f, a))
			if i == 1 {
				// More is asked of this one.
				do(f, act{call: "stat", s: "/"})
				do(f, act{call: "list", s: "/"})
				mustDump(t, f)
				f.Room()
				f.Anchor()
			}
		}
		want(t, "Leave", f.Leave(), api.OK)
		anchors[i] = f.Anchor()
		readDisk(t, p, v)
	}
	if !reflect.DeepEqual(told[0], told[1]) || anchors[0] != anchors[1] {
		t.Fatalf("anchors %v; answers %s", anchors, brief(told))
	}
}

// 'Examples', and the seventh of the whole's ten.
func TestExamples(t *testing.T) {
	onVaults(t, func(t *testing.T, v *vault.Vault) {
		p, f := made(t, v, 48)
		want(t, "Create", f.Create("/a"), api.OK)
		if fd, e := f.Open("/a"); fd != 0 || e != api.OK {
			t.Fatalf("Open: %d, error %d", fd, e)
		}
		room := f.Room()
		want(t, "Write", f.Write(0, 448, "x"), api.OK)
		if s, e := f.Read(0, 0, 1024); s != strings.Repeat("\x00", 448)+"x" || e != api.OK {
			t.Fatalf("Read: %q, error %d", s, e)
		}
		if f.Room() != room-1 {
			t.Fatalf("Room: %d; was %d", f.Room(), room)
		}
		want(t, "Mkdir", f.Mkdir("/d"), api.OK)
		want(t, "Rename", f.Rename("/d", "/d/e"), api.ErrLoop)
		want(t, "Create", f.Create("/lost+found/a"), api.ErrBusy)
		mustMake(t, p, v)
		f = mustMount(t, p, v)
		want(t, "Create", f.Create("/a"), api.OK)
		want(t, "Sync", f.Sync(), api.OK)
		p.Start(nil)
		if s, e := mustMount(t, p, v).Stat("/a"); s != (api.Stat{Ino: 3, Gen: 1, Kind: 1, Links: 1}) || e != api.OK {
			t.Fatalf("Stat: %v, error %d", s, e)
		}
	})
}
