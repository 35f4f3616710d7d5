package vfs_test

import (
	"reflect"
	"slices"
	"strconv"
	"testing"

	"grapnel/api"
	"grapnel/plate"
	"grapnel/vault"
	"grapnel/vfs"
)

// spoil damages a device: sectors are overwritten, can't be read, are swapped, or are what they were once.
func spoil(c *chance, p *plate.Plate, once []*plate.Plate, sectors int) {
	for range sectors {
		// Mostly what is looked at: the grids, inodes, directories, data.
		i := 8*27 + c.Intn(p.Sectors()/2-8*27)
		if c.Intn(8) == 0 {
			i = c.Intn(p.Sectors())
		}
		switch c.Intn(5) {
		case 0:
			p.Lay(i, filled(c.Intn(1000), 64))
		case 1:
			p.Spoil(i)
		case 2:
			k := c.Intn(p.Sectors()/8)*8 + i%8
			for d := range 8 {
				a, _ := p.Held(k/8*8 + d)
				if a != "" {
					p.Lay(i/8*8+d, a)
				}
			}
		default:
			back(p, once[c.Intn(len(once))], i/8*8, []int{1, 8, 8, 16, 64}[c.Intn(5)])
		}
	}
}

// back makes sectors of a device what they were once.
func back(p, once *plate.Plate, from, n int) {
	for i := from; i < min(from+n, p.Sectors()); i++ {
		if s, e := once.Held(i); e == api.OK {
			p.Lay(i, s)
		} else {
			p.Spoil(i)
		}
	}
}

// 13.11: whatever is done to the device of a file system that is mounted: every answer is the one without damage, or damage is told and nothing is changed.
func TestDamageMounted(t *testing.T) {
	t.Parallel()
	for _, live := range []int{48, 72, 150} {
		t.Run(strconv.Itoa(live), func(t *testing.T) {
			t.Parallel()
			damaged := 0
			for seed := range int64(12) {
				v := vault.Ideal()
				if seed == 0 {
					v = realVault(t)
				}
				c := newChance(seed+1000*int64(live), 5, true)
				p, f := made(t, v, live)
				x := newPlain(live)
				once := []*plate.Plate{p.Copy()}
				for i := range 200 {
					c.full = i%100 < 70
					both(t, f, x, c.act(x))
					if i%20 == 0 {
						want(t, "Sync", f.Sync(), api.OK)
						once = append(once, p.Copy())
					}
				}
				for range 6 {
					spoil(c, p, once, 5)
					damaged += wantTruth(t, f, x, c, 60)
				}
			}
			if damaged < 50 {
				t.Fatalf("damage was told %d times", damaged)
			}
		})
	}
}

// wantTruth does calls, and holds them against a plain tree: the same, or damage. It tells how often it was damage.
func wantTruth(t *testing.T, f *vfs.FS, x *plain, c *chance, calls int) int {
	t.Helper()
	damaged := 0
	for range calls {
		a := c.act(x)
		y := x.copy()
		got, must := do(f, a), do(y, a)
		if got.e == api.ErrDamage {
			damaged++
			if !reflect.DeepEqual(got, answer{e: api.ErrDamage}) {
				t.Fatalf("%s: %s beside an error", brief(a), brief(got))
			}
		} else if !reflect.DeepEqual(got, must) {
			t.Fatalf("%s: %s; without damage %s", brief(a), brief(got), brief(must))
		} else {
			*x = *y
		}
		if f.Room() != x.Room() {
			t.Fatalf("Room behind %s: %d; without damage %d", brief(a), f.Room(), x.Room())
		}
		if l, e := f.Dump(); e != api.ErrDamage && !reflect.DeepEqual(l, mustDump(t, x)) {
			t.Fatalf("Dump behind %s: %s, error %d; without damage %s", brief(a), brief(l), e, brief(mustDump(t, x)))
		}
	}
	return damaged
}

// 13.11, 13.2: whatever was done to a device ahead of a mount: what is mounted is a tree that was committed, with its root; of it every answer is right, or damage is told.
func TestDamageAhead(t *testing.T) {
	t.Parallel()
	for seed := range int64(16) {
		t.Run(strconv.Itoa(int(seed)), func(t *testing.T) {
			t.Parallel()
			v := vault.Ideal()
			if seed == 0 {
				v = realVault(t)
			}
			c := newChance(seed, 4, false)
			p, f := made(t, v, 64)
			x := newPlain(64)
			once, trees := []*plate.Plate{p.Copy()}, map[string]*plain{f.Anchor().Root: x.copy()}
			for i := range 120 {
				c.full = i%60 < 50
				both(t, f, x, c.act(x))
				want(t, "Sync", f.Sync(), api.OK)
				trees[f.Anchor().Root] = x.copy()
				if i%10 == 0 {
					once = append(once, p.Copy())
				}
			}
			mounted := 0
			for range 60 {
				q := p.Copy()
				spoil(c, q, once, 1+c.Intn(4))
				if c.Intn(4) == 0 {
					back(q, once[c.Intn(len(once))], 0, q.Sectors())
				}
				g, e := vfs.Mount(q, v, noAnchor)
				if e != api.OK {
					if !slices.Contains([]api.Errno{api.ErrSuper, api.ErrDamage, api.ErrRoot}, e) {
						t.Fatalf("Mount: error %d", e)
					}
					continue
				}
				mounted++
				y := trees[g.Anchor().Root]
				if y == nil {
					t.Fatalf("mounted was a root that nobody committed: %v", g.Anchor())
				}
				wantTruth(t, g, y.mounted(), c, 20)
			}
			if mounted == 0 {
				t.Fatal("nothing was mounted")
			}
		})
	}
}

// stored is a file system with a file that has all kinds of tables, a directory, and a path that leads to it; left.
func stored(t *testing.T, v *vault.Vault) (*plate.Plate, *plain) {
	t.Helper()
	p, f := made(t, v, 72)
	x := newPlain(72)
	run(t, f, x, []act{{call: "create", s: "/a"}, {call: "mkdir", s: "/d"}, {call: "create", s: "/d/b"}, {call: "symlink", s: "/s", to: "/d"}, {call: "create", s: "/gone"}, {call: "remove", s: "/gone"}, {call: "open", s: "/a"}})
	for _, index := range []int{0, 1, 12, 13, 124, 125, 236} {
		run(t, f, x, []act{{call: "write", at: index * 448, s: filled(index, 448)}})
	}
	leftAndMounted(t, p, v, f, x)
	return p, x
}

// 13.3: which blocks a call needs: the calls that tell damage, when one block is damaged, and those that do not.
func TestDamageNeeded(t *testing.T) {
	onVaults(t, func(t *testing.T, v *vault.Vault) {
		start, x := stored(t, v)
		_, body := opened(t, start, v, 28+3)
		a := inodeOf(body)
		_, body = opened(t, start, v, 28+4)
		d := inodeOf(body)
		_, body = opened(t, start, v, 28+6)
		s := inodeOf(body)
		_, body = opened(t, start, v, a.Single)
		single := tableOf(body)
		_, body = opened(t, start, v, a.Double)
		double := tableOf(body)
		read := func(index int) act { return act{call: "read", at: index * 448, n: 448} }
		for _, c := range []struct {
			name  string
			at    int
			needs []act
			not   []act
		}{
			{"the grid of blocks", 27, nil, []act{{call: "stat", s: "/a"}, read(0), {call: "create", s: "/a"}, {call: "list", s: "/d"}}},
			{"the grid of inodes", 28, nil, []act{{call: "stat", s: "/a"}, read(0), {call: "write", at: 3}, {call: "open", s: "/a"}}},
			{"the root's inode", 29, []act{{call: "stat", s: "/"}, {call: "stat", s: "/a"}, {call: "create", s: "/n"}, {call: "list", s: "/"}}, []act{read(0), {call: "sync"}}},
			{"lost+found's inode", 30, []act{{call: "list", s: "/lost+found"}, {call: "remove", s: "/lost+found"}}, []act{{call: "stat", s: "/a"}, read(0)}},
			{"a file's inode", 31, []act{{call: "stat", s: "/a"}, read(0), {call: "link", s: "/a", to: "/n"}, {call: "remove", s: "/a"}, {call: "open", s: "/a"}, {call: "write", s: "x"}, {call: "trunc"}}, []act{{call: "list", s: "/"}, {call: "create", s: "/a"}, {call: "stat", s: "/d/b"}, {call: "create", s: "/n"}}},
			{"a free inode", 28 + 7, []act{{call: "create", s: "/n"}, {call: "mkdir", s: "/n"}}, []act{{call: "link", s: "/a", to: "/n"}, {call: "create", s: "/a"}}},
			{"the root's block", rootOf(72), []act{{call: "stat", s: "/a"}, {call: "list", s: "/"}, {call: "create", s: "/n"}}, []act{{call: "stat", s: "/"}, read(0)}},
			{"a directory's inode", 32, []act{{call: "list", s: "/d"}, {call: "stat", s: "/d/b"}, {call: "stat", s: "/s/b"}}, []act{{call: "list", s: "/"}, {call: "readlink", s: "/s"}, {call: "stat", s: "/a"}}},
			{"a directory's block", d.Direct[0], []act{{call: "list", s: "/d"}, {call: "stat", s: "/d/b"}, {call: "remove", s: "/d"}, {call: "create", s: "/d/n"}, {call: "list", s: "/s"}}, []act{{call: "stat", s: "/d"}, {call: "rename", s: "/d", to: "/n"}}},
			{"a path", s.Direct[0], []act{{call: "readlink", s: "/s"}, {call: "list", s: "/s"}, {call: "stat", s: "/s/b"}}, []act{{call: "stat", s: "/s"}, {call: "list", s: "/d"}, {call: "rename", s: "/s", to: "/n"}, {call: "remove", s: "/n"}}},
			{"a block", a.Direct[1], []act{read(1), {call: "write", at: 449, s: "x"}, {call: "trunc", n: 449}}, []act{{call: "stat", s: "/a"}, read(0), read(12), read(124), read(2), {call: "write", s: "x"}, {call: "trunc", n: 448}}},
			{"a block that is laid over", a.Direct[1], nil, []act{{call: "write", at: 448, s: filled(7, 448)}, read(1)}},
			{"a file that goes", a.Direct[1], nil, []act{{call: "close"}, {call: "remove", s: "/a"}}},
			{"its table", a.Single, []act{read(12), read(13), read(14), {call: "write", at: 13 * 448, s: filled(1, 448)}, {call: "trunc"}}, []act{read(0), read(11), read(124), read(236), {call: "write", at: 125 * 448, s: filled(1, 448)}, {call: "trunc", n: 124 * 448}}},
			{"a block of its table", single[1], []act{read(13)}, []act{read(12), read(14), {call: "trunc", n: 448}}},
			{"its tables", a.Double, []act{read(124), read(236), read(235), {call: "trunc", n: 12 * 448}}, []act{read(0), read(12), read(123), {call: "write", at: 12 * 448, s: filled(3, 448)}, {call: "trunc", n: maxSize}}},
			{"a table of its tables", double[1], []act{read(236), {call: "trunc", n: 236 * 448}}, []act{read(12), read(124), read(348), {call: "write", at: 124 * 448, s: filled(3, 448)}, {call: "write", at: 348 * 448, s: "x"}}},
		} {
			for i := range 8 {
				for _, dumb := range []bool{false, true} {
					p := start.Copy()
					f, y := mustMount(t, p, v), x.mounted()
					run(t, f, y, []act{{call: "open", s: "/a"}})
					if dumb {
						p.Spoil(8*c.at + i)
					} else {
						p.Lay(8*c.at+i, filled(5, 64))
					}
					for _, b := range c.needs {
						if got := do(f, b); !reflect.DeepEqual(got, answer{e: api.ErrDamage}) {
							t.Fatalf("%s, sector %d: %s: %s", c.name, i, brief(b), brief(got))
						}
					}
					if a := f.Anchor(); f.Sync() != api.OK || f.Anchor() != a {
						t.Fatalf("%s: something was committed: %v", c.name, f.Anchor())
					}
					for _, b := range c.not {
						both(t, f, y, b)
					}
					if a := f.Anchor(); c.at < 29 && (f.Sync() != api.OK || f.Anchor() != a) {
						t.Fatalf("%s: something was committed: %v", c.name, f.Anchor())
					}
				}
			}
		}
	})
}

// R2: beside an error there is nothing, also where some of it was found already.
func TestDamageLater(t *testing.T) {
	v := vault.Ideal()
	p, f := made(t, v, 72)
	want(t, "Create", f.Create("/a"), api.OK)
	want(t, "Mkdir", f.Mkdir("/d"), api.OK)
	for i := range 40 {
		want(t, "Link", f.Link("/a", "/d/"+strconv.Itoa(i)), api.OK)
	}
	fd, _ := f.Open("/a")
	want(t, "Write", f.Write(fd, 0, filled(1, 1000)), api.OK)
	want(t, "Sync", f.Sync(), api.OK)
	_, body := opened(t, p, v, 32)
	p.Spoil(8 * inodeOf(body).Direct[1])
	_, body = opened(t, p, v, 31)
	p.Spoil(8 * inodeOf(body).Direct[1])
	if l, e := f.List("/d"); len(l) != 0 || e != api.ErrDamage {
		t.Fatalf("List: %v, error %d", l, e)
	}
	if l, e := f.Dump(); len(l) != 0 || e != api.ErrDamage {
		t.Fatalf("Dump: %v, error %d", l, e)
	}
	if s, e := f.Read(fd, 0, 1000); s != "" || e != api.ErrDamage {
		t.Fatalf("Read: %q, error %d", s, e)
	}
	// What stands ahead of the damage is found.
	if _, e := f.Stat("/d/15"); e != api.OK {
		t.Fatalf("Stat: error %d", e)
	}
	if _, e := f.Stat("/d/16"); e != api.ErrDamage {
		t.Fatalf("Stat: error %d", e)
	}
}

// 13.3, 13.11: blocks that are authentic, under the root, and not what they must be.
func TestDamageForged(t *testing.T) {
	onVaults(t, func(t *testing.T, v *vault.Vault) {
		start, _ := stored(t, v)
		inode := func(ino int, change func(i *api.Inode)) string {
			_, body := opened(t, start, v, 28+ino)
			i := inodeOf(body)
			change(&i)
			return inodeText(i)
		}
		same := func(i *api.Inode) {}
		page := func(l ...api.Entry) string {
			return pageText(append([]api.Entry{{Name: "lost+found", Ino: 2, Gen: 1}}, l...))
		}
		_, body := opened(t, start, v, 31)
		a := inodeOf(body)
		_, single := opened(t, start, v, a.Single)
		_, double := opened(t, start, v, a.Double)
		_, first := opened(t, start, v, tableOf(double)[0])
		_, data := opened(t, start, v, a.Direct[0])
		_, path := opened(t, start, v, inodeOf(inode(6, same)).Direct[0])
		slot := pageText([]api.Entry{{Name: "b", Ino: 5, Gen: 1}})
		dirAt := inodeOf(inode(4, same)).Direct[0]
		stat := func(s string) act { return act{call: "stat", s: s} }
		read := func(index int) act { return act{call: "read", at: index * 448, n: 10} }
		const root = 39
		for name, c := range map[string]struct {
			blocks map[int]piece
			acts   []act
		}{
			"an inode of another kind of block":    {map[int]piece{31: {7, 3, 1, 0, inode(3, same)}}, []act{stat("/a")}},
			"an inode of another inode":            {map[int]piece{31: {5, 4, 1, 0, inode(3, same)}}, []act{stat("/a")}},
			"an inode of another generation":       {map[int]piece{31: {5, 3, 2, 0, inode(3, same)}}, []act{stat("/a")}},
			"an inode with an index":               {map[int]piece{31: {5, 3, 1, 1, inode(3, same)}}, []act{stat("/a")}},
			"no inode":                             {map[int]piece{31: {5, 3, 1, 0, data}}, []act{stat("/a")}},
			"an inode of the kind 4":               {map[int]piece{31: {5, 3, 1, 0, inode(3, func(i *api.Inode) { i.Kind = 4 })}}, []act{stat("/a")}},
			"an inode that is free":                {map[int]piece{31: {5, 3, 1, 0, blank(448)}}, []act{stat("/a")}},
			"a file that is too long":              {map[int]piece{31: {5, 3, 1, 0, inode(3, func(i *api.Inode) { i.Size = maxSize + 1 })}}, []act{stat("/a")}},
			"a directory of a part of a block":     {map[int]piece{32: {5, 4, 1, 0, inode(4, func(i *api.Inode) { i.Size = 449 })}}, []act{stat("/d"), {call: "list", s: "/d"}}},
			"a directory that is too long":         {map[int]piece{32: {5, 4, 1, 0, inode(4, func(i *api.Inode) { i.Size = maxSize + 448 })}}, []act{stat("/d")}},
			"a root that is a file":                {map[int]piece{29: {5, 1, 1, 0, inode(1, func(i *api.Inode) { i.Kind = 1 })}}, []act{stat("/"), stat("/a"), {call: "create", s: "/n"}, {call: "dump"}}},
			"a root that is free":                  {map[int]piece{29: {5, 1, 1, 0, blank(448)}}, []act{stat("/"), stat("/a"), {call: "list", s: "/"}, {call: "dump"}}},
			"a name of no inode":                   {map[int]piece{root: {6, 1, 1, 0, page(api.Entry{Name: "x", Ino: 99, Gen: 1})}}, []act{stat("/x"), {call: "dump"}, {call: "remove", s: "/x"}, {call: "open", s: "/x"}}},
			"a name of the inode 0":                {map[int]piece{root: {6, 1, 1, 0, page(api.Entry{Name: "x", Gen: 1})}}, []act{stat("/x"), {call: "dump"}}},
			"a name of the greatest inode":         {map[int]piece{root: {6, 1, 1, 0, page(api.Entry{Name: "x", Ino: 1<<32 - 1, Gen: 1})}}, []act{stat("/x"), {call: "dump"}}},
			"a name of an inode too many":          {map[int]piece{root: {6, 1, 1, 0, page(api.Entry{Name: "x", Ino: 10, Gen: 1})}, 38: {5, 10, 1, 0, inode(3, same)}}, []act{stat("/x"), {call: "dump"}}},
			"a name of a free inode":               {map[int]piece{root: {6, 1, 1, 0, page(api.Entry{Name: "x", Ino: 9})}}, []act{stat("/x"), {call: "dump"}}},
			"a name of another generation":         {map[int]piece{root: {6, 1, 1, 0, page(api.Entry{Name: "x", Ino: 3, Gen: 2})}}, []act{stat("/x"), {call: "dump"}, {call: "rename", s: "/x", to: "/y"}}},
			"a directory's block of another kind":  {map[int]piece{dirAt: {7, 4, 1, 0, slot}}, []act{stat("/d/b"), {call: "list", s: "/d"}}},
			"a directory's block of another index": {map[int]piece{dirAt: {6, 4, 1, 1, slot}}, []act{stat("/d/b"), {call: "create", s: "/d/x"}}},
			"a directory's block of another gen":   {map[int]piece{dirAt: {6, 4, 2, 0, slot}}, []act{stat("/d/b")}},
			"no directory's block":                 {map[int]piece{dirAt: {6, 4, 1, 0, data}}, []act{stat("/d/b"), {call: "remove", s: "/d"}, {call: "dump"}}},
			"data of another inode":                {map[int]piece{a.Direct[0]: {7, 5, 1, 0, data}}, []act{read(0), {call: "write", s: "x"}}},
			"data of another generation":           {map[int]piece{a.Direct[0]: {7, 3, 0, 0, data}}, []act{read(0)}},
			"data of another index":                {map[int]piece{a.Direct[0]: {7, 3, 1, 1, data}}, []act{read(0)}},
			"data of another kind":                 {map[int]piece{a.Direct[0]: {6, 3, 1, 0, data}}, []act{read(0)}},
			"a table that is none":                 {map[int]piece{a.Single: {9, 3, 1, 0, single}}, []act{read(12), {call: "trunc"}}},
			"a table of another index":             {map[int]piece{a.Single: {8, 3, 1, 1, single}}, []act{read(12)}},
			"tables that are none":                 {map[int]piece{a.Double: {8, 3, 1, 0, double}}, []act{read(124), {call: "trunc"}}},
			"a table of the tables as a table":     {map[int]piece{tableOf(double)[0]: {8, 3, 1, 0, first}}, []act{read(124)}},
			"a table of the tables, the next":      {map[int]piece{tableOf(double)[0]: {8, 3, 1, 2, first}}, []act{read(124)}},
			"a pointer beyond all":                 {map[int]piece{31: {5, 3, 1, 0, inode(3, func(i *api.Inode) { i.Direct[0] = 72 })}}, []act{read(0), {call: "trunc"}}},
			"a pointer to the greatest":            {map[int]piece{31: {5, 3, 1, 0, inode(3, func(i *api.Inode) { i.Direct[0] = 1<<32 - 1 })}}, []act{read(0), {call: "trunc"}}},
			"a pointer to what is free":            {map[int]piece{31: {5, 3, 1, 0, inode(3, func(i *api.Inode) { i.Direct[0] = 71 })}}, []act{read(0), {call: "trunc"}}},
			"a pointer to the grid":                {map[int]piece{31: {5, 3, 1, 0, inode(3, func(i *api.Inode) { i.Direct[0] = 27 })}}, []act{read(0), {call: "trunc"}}},
			"a pointer to the root's block":        {map[int]piece{31: {5, 3, 1, 0, inode(3, func(i *api.Inode) { i.Direct[0] = root })}}, []act{read(0), {call: "trunc"}}},
			"two pointers to one":                  {map[int]piece{31: {5, 3, 1, 0, inode(3, func(i *api.Inode) { i.Direct[1] = i.Direct[0] })}}, []act{read(1), {call: "trunc"}}},
			"a path that is none":                  {map[int]piece{inodeOf(inode(6, same)).Direct[0]: {7, 6, 1, 0, "x" + path[1:]}}, []act{{call: "readlink", s: "/s"}, {call: "list", s: "/s"}, stat("/s/b"), {call: "dump"}}},
			"a path that is too long":              {map[int]piece{34: {5, 6, 1, 0, inode(6, func(i *api.Inode) { i.Size = 256 })}}, []act{{call: "readlink", s: "/s"}, {call: "dump"}}},
			"a path of no bytes":                   {map[int]piece{34: {5, 6, 1, 0, inode(6, func(i *api.Inode) { i.Size = 0 })}}, []act{{call: "readlink", s: "/s"}, {call: "dump"}}},
			"an inode that is not free":            {map[int]piece{28: {4, 0, 0, 0, gridText([]int{0, 1, 3, 4, 5})}}, []act{{call: "create", s: "/n"}}},
			"the root in itself":                   {map[int]piece{root: {6, 1, 1, 0, page(api.Entry{Name: "x", Ino: 1, Gen: 1})}}, []act{{call: "dump"}}},
			"a directory twice":                    {map[int]piece{root: {6, 1, 1, 0, page(api.Entry{Name: "x", Ino: 4, Gen: 1}, api.Entry{Name: "y", Ino: 4, Gen: 1})}}, []act{{call: "dump"}}},
			"a directory in itself":                {map[int]piece{dirAt: {6, 4, 1, 0, pageText([]api.Entry{{Name: "d", Ino: 4, Gen: 1}})}}, []act{{call: "dump"}}},
		} {
			p := start.Copy()
			forge(t, p, v, c.blocks)
			f := mustMount(t, p, v)
			f.Open("/a")
			for _, b := range c.acts {
				got := do(f, b)
				if b.call == "dump" {
					var l []api.Node
					l, got.e = f.Dump()
					got.n = len(l)
				}
				if !reflect.DeepEqual(got, answer{e: api.ErrDamage}) {
					t.Errorf("%s: %v: %s; want damage", name, b, brief(got))
				}
			}
			want(t, name+": Sync", f.Sync(), api.OK)
		}
	})
}

// 13.11: a block that was there once, and is under that inode, generation and index, is none that is there now.
func TestDamageOnce(t *testing.T) {
	onVaults(t, func(t *testing.T, v *vault.Vault) {
		p, f := made(t, v, 64)
		want(t, "Create", f.Create("/a"), api.OK)
		f.Open("/a")
		want(t, "Write", f.Write(0, 0, "older"), api.OK)
		want(t, "Sync", f.Sync(), api.OK)
		once := p.Copy()
		want(t, "Write", f.Write(0, 0, "newer"), api.OK)
		want(t, "Write", f.Write(0, 500, "newer"), api.OK)
		want(t, "Sync", f.Sync(), api.OK)
		for at := 27; at < 64; at++ {
			back(p, once, 8*at, 8)
		}
		for _, a := range []act{{call: "read", n: 5}, {call: "stat", s: "/a"}, {call: "write", at: 2, s: "x"}} {
			want(t, a.call, do(f, a).e, api.ErrDamage)
		}
		// Who mounts it anew is told, too.
		wantNoMount(t, "sectors that were there once", p, v, noAnchor, api.ErrRoot)
		// The device as a whole as it was is another matter.
		g, e := vfs.Mount(once, v, noAnchor)
		want(t, "Mount", e, api.OK)
		g.Open("/a")
		if s, e := g.Read(0, 0, 9); s != "older" || e != api.OK {
			t.Fatalf("Read: %q, error %d", s, e)
		}
		wantNoMount(t, "with an anchor", once, v, f.Anchor(), api.ErrAnchor)
	})
}

// 'Words': a directory may lack blocks that its size has: their slots are free, and the first name that needs one takes a block.
func TestDirectoryHoles(t *testing.T) {
	onVaults(t, func(t *testing.T, v *vault.Vault) {
		start, _ := stored(t, v)
		_, body := opened(t, start, v, 32)
		d := inodeOf(body)
		d.Size, d.Direct[2], d.Direct[0] = 3*448, d.Direct[0], 0
		full := make([]api.Entry, 16)
		for i := range full {
			full[i] = api.Entry{Name: "n" + strconv.Itoa(i), Ino: 5, Gen: 1}
		}
		forge(t, start, v, map[int]piece{32: {5, 4, 1, 0, inodeText(d)}, d.Direct[2]: {6, 4, 1, 2, pageText(full)}})
		f := mustMount(t, start, v)
		l, e := f.List("/d")
		if !slices.Equal(l, full) || e != api.OK {
			t.Fatalf("List: %v, error %d", l, e)
		}
		room := f.Room()
		for i := range 33 {
			want(t, "Link", f.Link("/a", "/d/x"+strconv.Itoa(i)), api.OK)
			if must := room - 1 - i/16; f.Room() != must {
				t.Fatalf("Room behind %d names: %d; want %d", i+1, f.Room(), must)
			}
		}
		l, _ = f.List("/d")
		if len(l) != 49 || l[0].Name != "x0" || l[31].Name != "x31" || l[32].Name != "n0" || l[48].Name != "x32" {
			t.Fatalf("List: %v", l)
		}
		if s, _ := f.Stat("/d"); s.Size != 4*448 {
			t.Fatalf("Stat: %v", s)
		}
		want(t, "Sync", f.Sync(), api.OK)
	})
}

// 'Words': blocks below the data are used, whatever a grid says: none of them is taken.
func TestForgedGrid(t *testing.T) {
	v := vault.Ideal()
	start, _ := stored(t, v)
	_, body := opened(t, start, v, 27)
	b := []byte(body)
	b[0], b[1], b[38/8] = 0, 0, b[38/8]&^(1<<(38%8))
	forge(t, start, v, map[int]piece{27: {kind: 3, body: string(b)}})
	f := mustMount(t, start, v)
	f.Open("/a")
	for index := range 5 {
		want(t, "Write", f.Write(0, (2+index)*448, "x"), api.OK)
	}
	want(t, "Sync", f.Sync(), api.OK)
	_, body = opened(t, start, v, 31)
	for index := range 5 {
		if at := inodeOf(body).Direct[2+index]; at < dataOf(72) {
			t.Fatalf("the index %d is at %d", 2+index, at)
		}
	}
}

// R1: directories that name each other end every call, and generations, links and sizes at their bounds are no trouble.
func TestForgedBounds(t *testing.T) {
	v := vault.Ideal()
	start, _ := stored(t, v)
	inode := func(ino int, change func(i *api.Inode)) string {
		_, body := opened(t, start, v, 28+ino)
		i := inodeOf(body)
		change(&i)
		return inodeText(i)
	}
	for name, c := range map[string]struct {
		blocks map[int]piece
		a      act
		e      api.Errno
	}{
		"the last generation":       {map[int]piece{28 + 7: {5, 7, 1<<32 - 1, 0, blank(448)}}, act{call: "create", s: "/n"}, api.ErrRange},
		"the last generation but 1": {map[int]piece{28 + 7: {5, 7, 1<<32 - 2, 0, blank(448)}}, act{call: "create", s: "/n"}, api.OK},
		"too many names":            {map[int]piece{31: {5, 3, 1, 0, inode(3, func(i *api.Inode) { i.Links = 1<<32 - 1 })}}, act{call: "link", s: "/a", to: "/n"}, api.ErrLinks},
		"a thousand names":          {map[int]piece{31: {5, 3, 1, 0, inode(3, func(i *api.Inode) { i.Links = 1000 })}}, act{call: "link", s: "/a", to: "/n"}, api.ErrLinks},
		"a name less":               {map[int]piece{31: {5, 3, 1, 0, inode(3, func(i *api.Inode) { i.Links = 999 })}}, act{call: "link", s: "/a", to: "/n"}, api.OK},
		"no name":                   {map[int]piece{31: {5, 3, 1, 0, inode(3, func(i *api.Inode) { i.Links = 0 })}}, act{call: "remove", s: "/a"}, api.OK},
		"a directory of holes":      {map[int]piece{32: {5, 4, 1, 0, inode(4, func(i *api.Inode) { i.Size = maxSize })}}, act{call: "list", s: "/d"}, api.OK},
	} {
		p := start.Copy()
		forge(t, p, v, c.blocks)
		f := mustMount(t, p, v)
		want(t, name, do(f, c.a).e, c.e)
		want(t, name+": Sync", f.Sync(), api.OK)
		f.Dump()
		if _, e := vfs.Mount(p, v, f.Anchor()); e != api.OK {
			t.Fatalf("%s: Mount: error %d", name, e)
		}
	}
}
