package vfs_test

import (
	"slices"
	"strings"
	"testing"

	"grapnel/api"
	"grapnel/plate"
	"grapnel/vault"
)

// What the chapters' words say of bytes and places, beside the program's own packages: of these the vault and the device alone are made use of.

// dataOf is the first address of the data.
func dataOf(live int) int { return 29 + live/8 + (live/8+15)/16 + 1 }

// lostOf is the first block of lost+found, rootOf the root's.
func lostOf(live int) int { return 29 + live/8 }

func rootOf(live int) int { return dataOf(live) - 1 }

// sectorsOf is how many a device has whose living part has so many blocks: these, a plan's commit and list, as many old blocks.
func sectorsOf(live int) int { return 8 * (live + 1 + (live+63)/64 + live) }

// number is n in so many bytes.
func number(n, width int) string {
	b := make([]byte, width)
	for i := range b {
		b[i] = byte(n >> (8 * i))
	}
	return string(b)
}

// field is the number in the next bytes of a text, which go.
func field(s *string, width int) int {
	n := 0
	for i := range width {
		n += int((*s)[i]) << (8 * i)
	}
	*s = (*s)[width:]
	return n
}

func blank(n int) string { return strings.Repeat("\x00", n) }

func headText(h api.Head) string {
	return "GRPN" + number(h.Volume, 6) + number(h.Address, 4) + number(h.Kind, 2) + number(h.Ino, 4) + number(h.Gen, 4) + number(h.Index, 4) + number(h.Version, 6) + number(h.Salt, 6) + blank(8)
}

func headOf(s string) (api.Head, bool) {
	if s[:4] != "GRPN" || s[40:48] != blank(8) {
		return api.Head{}, false
	}
	s = s[4:]
	return api.Head{Volume: field(&s, 6), Address: field(&s, 4), Kind: field(&s, 2), Ino: field(&s, 4), Gen: field(&s, 4), Index: field(&s, 4), Version: field(&s, 6), Salt: field(&s, 6)}, true
}

func superText(s api.Super) string {
	return number(s.Volume, 6) + number(s.Epoch, 6) + number(s.Next, 6) + number(s.Live, 4) + s.Root + blank(394)
}

func superOf(s string) api.Super {
	return api.Super{Volume: field(&s, 6), Epoch: field(&s, 6), Next: field(&s, 6), Live: field(&s, 4), Root: s[:32]}
}

func inodeText(i api.Inode) string {
	s := number(i.Kind, 2) + number(i.Links, 4) + number(i.Size, 6) + number(i.Parent, 4)
	for _, n := range i.Direct {
		s += number(n, 4)
	}
	return s + number(i.Single, 4) + number(i.Double, 4) + blank(376)
}

func inodeOf(s string) api.Inode {
	i := api.Inode{Kind: field(&s, 2), Links: field(&s, 4), Size: field(&s, 6), Parent: field(&s, 4)}
	for k := range i.Direct {
		i.Direct[k] = field(&s, 4)
	}
	i.Single, i.Double = field(&s, 4), field(&s, 4)
	return i
}

// pageText is slots as a directory's block, free ones behind them.
func pageText(l []api.Entry) string {
	s := ""
	for _, x := range l {
		s += number(len(x.Name), 1) + x.Name + blank(19-len(x.Name)) + number(x.Ino, 4) + number(x.Gen, 4)
	}
	return s + blank(448-len(s))
}

func pageOf(s string) []api.Entry {
	l := make([]api.Entry, 16)
	for i := range l {
		n := field(&s, 1)
		l[i].Name = s[:n]
		s = s[19:]
		l[i].Ino, l[i].Gen = field(&s, 4), field(&s, 4)
	}
	return l
}

func tableOf(s string) []int {
	var l []int
	for len(s) > 0 {
		l = append(l, field(&s, 4))
	}
	return l
}

// gridText is a grid of which these are used.
func gridText(used []int) string {
	b := make([]byte, 448)
	for _, i := range used {
		b[i/8] |= 1 << (i % 8)
	}
	return string(b)
}

// sealed is a block of a head and a body.
func sealed(t testing.TB, v *vault.Vault, h api.Head, body string) string {
	t.Helper()
	s, e := v.Seal(h.Salt, number(h.Address, 4)+number(h.Version, 6)+blank(2), headText(h), body)
	if e != api.OK {
		t.Fatalf("the vault's Seal for %v: error %d", h, e)
	}
	return headText(h) + s
}

// rawAt is the bytes at an address, as they are kept or wait.
func rawAt(p *plate.Plate, at int) string {
	var b strings.Builder
	q := p.Copy()
	for i := range 8 {
		s, e := q.Read(8*at + i)
		if e != api.OK {
			s = blank(64)
		}
		b.WriteString(s)
	}
	return b.String()
}

// layAt lays bytes at an address, as damage does.
func layAt(p *plate.Plate, at int, raw string) {
	for i := range 8 {
		p.Lay(8*at+i, raw[64*i:64*i+64])
	}
}

// opened is the head and body of what stands at an address, which must be authentic there.
func opened(t testing.TB, p *plate.Plate, v *vault.Vault, at int) (api.Head, string) {
	t.Helper()
	raw := rawAt(p, at)
	h, ok := headOf(raw)
	body, e := v.Open(h.Salt, number(h.Address, 4)+number(h.Version, 6)+blank(2), raw[:48], raw[48:])
	if !ok || e != api.OK || h.Address != at {
		t.Fatalf("the block %d is not authentic: %v, error %d", at, h, e)
	}
	return h, body
}

// superOn is the superblock of the greater Epoch, and whether there is one.
func superOn(p *plate.Plate, v *vault.Vault) (api.Super, bool) {
	best, has := api.Super{}, false
	for at := range 2 {
		raw := rawAt(p, at)
		h, ok := headOf(raw)
		body, e := v.Open(h.Salt, number(h.Address, 4)+number(h.Version, 6)+blank(2), raw[:48], raw[48:])
		if !ok || e != api.OK || h.Address != at || h.Kind != 1 {
			continue
		}
		if s := superOf(body); !has || s.Epoch > best.Epoch {
			best, has = s, true
		}
	}
	return best, has
}

// rootOver is the root of a tree of hashes over texts: four to a node.
func rootOver(v *vault.Vault, leaves []string) string {
	var row []string
	for _, s := range leaves {
		row = append(row, v.Hash("\x00"+s))
	}
	for len(row) > 1 {
		var up []string
		for four := range slices.Chunk(row, 4) {
			up = append(up, v.Hash("\x01"+strings.Join(four, "")))
		}
		row = up
	}
	return v.Hash("\x02" + number(len(leaves), 6) + strings.Join(row, ""))
}

// disk is a device as the chapters' words let it be read, whatever the program makes of it.
type disk struct {
	t     testing.TB
	p     *plate.Plate
	v     *vault.Vault
	super api.Super
	has   map[int]string // who has an address
	names map[int]int    // of inodes
	tree  *plain
}

// readDisk reads a device that a file system left or synced, and fails, if anything of it is not as it must be: superblock, root, grids, inodes, pointers, tables, slots, links, parents. It is what is there as a plain tree.
func readDisk(t testing.TB, p *plate.Plate, v *vault.Vault) (*plain, api.Super) {
	t.Helper()
	s, ok := superOn(p, v)
	if !ok {
		t.Fatal("there is no superblock")
	}
	d := &disk{t: t, p: p, v: v, super: s, has: map[int]string{}, names: map[int]int{}, tree: &plain{live: s.Live, things: make([]thing, s.Live/8+1)}}
	for at := range dataOf(s.Live) {
		d.has[at] = "fixed"
	}
	var used []int
	for ino := 1; ino <= s.Live/8; ino++ {
		d.readNode(ino)
		if d.tree.things[ino].kind != 0 {
			used = append(used, ino-1)
		}
	}
	d.wantGrid(28, 4, used)
	d.countNames(1)
	d.wantLinks()
	used = nil
	for at := range s.Live {
		if d.has[at] != "" {
			used = append(used, at)
		}
	}
	d.wantGrid(27, 3, used)
	d.wantRoot()
	return d.tree, s
}

// body is what stands at an address, which must be that block.
func (d *disk) body(at, kind, ino, gen, index int) string {
	d.t.Helper()
	h, body := opened(d.t, d.p, d.v, at)
	must := api.Head{Volume: d.super.Volume, Address: at, Kind: kind, Ino: ino, Gen: gen, Index: index, Version: h.Version, Salt: h.Salt}
	if h != must || h.Version < 1 || h.Version >= d.super.Next || h.Salt > d.super.Epoch {
		d.t.Fatalf("the head at %d: %+v; want %+v, with a Version below %d, and a Salt of at most %d", at, h, must, d.super.Next, d.super.Epoch)
	}
	return body
}

func (d *disk) wantGrid(at, kind int, used []int) {
	d.t.Helper()
	if body := d.body(at, kind, 0, 0, 0); body != gridText(used) {
		d.t.Fatalf("the grid at %d: %x; want %x", at, body, gridText(used))
	}
}

// take is that somebody has an address of the data, whom nobody else may have.
func (d *disk) take(at int, who string) {
	d.t.Helper()
	if at < dataOf(d.super.Live) || at >= d.super.Live || d.has[at] != "" {
		d.t.Fatalf("%s has the address %d, which is %q's", who, at, d.has[at])
	}
	d.has[at] = who
}

// readNode reads an inode and all of its blocks.
func (d *disk) readNode(ino int) {
	d.t.Helper()
	h, _ := opened(d.t, d.p, d.v, 28+ino)
	i := inodeOf(d.body(28+ino, 5, ino, h.Gen, 0))
	x := thing{kind: i.Kind, gen: h.Gen, links: i.Links, size: i.Size, parent: i.Parent}
	if inodeText(i) != d.body(28+ino, 5, ino, h.Gen, 0) || i.Kind == 0 && i != (api.Inode{}) {
		d.t.Fatalf("the inode %d: %+v", ino, i)
	}
	if i.Kind != 0 && i.Kind != 2 {
		x.pieces = map[int]string{}
	}
	who := "inode " + number('0'+ino, 1)
	kind := 7
	if i.Kind == 2 {
		kind = 6
	}
	for index, at := range d.pointers(ino, h.Gen, i, who) {
		if ino > 2 || at >= dataOf(d.super.Live) {
			d.take(at, who)
		} else if must := []int{rootOf(d.super.Live), lostOf(d.super.Live)}[ino-1] + index; at != must {
			d.t.Fatalf("the block %d of the inode %d is at %d; want %d", index, ino, at, must)
		}
		body := d.body(at, kind, ino, h.Gen, index)
		if i.Kind == 2 {
			x.slots = append(x.slots, make([]api.Entry, max(16*index+16-len(x.slots), 0))...)
			copy(x.slots[16*index:], pageOf(body))
			if pageText(x.slots[16*index:16*index+16]) != body {
				d.t.Fatalf("the directory's block at %d: %x", at, body)
			}
			continue
		}
		if index*448 >= i.Size || body[min(max(i.Size-448*index, 0), 448):] != blank(max(448-max(i.Size-448*index, 0), 0)) {
			d.t.Fatalf("the inode %d of the size %d has bytes behind its end, in the index %d", ino, i.Size, index)
		}
		x.pieces[index] = body
	}
	if i.Kind == 2 && len(x.slots)*28 != i.Size {
		d.t.Fatalf("the directory %d has the size %d, and %d slots", ino, i.Size, len(x.slots))
	}
	d.tree.things[ino] = x
}

// pointers is where an inode's indices are.
func (d *disk) pointers(ino, gen int, i api.Inode, who string) map[int]int {
	d.t.Helper()
	at := map[int]int{}
	add := func(first int, l []int) {
		some := false
		for k, n := range l {
			if n != 0 {
				at[first+k] = n
				some = true
			}
		}
		if !some && first > 0 {
			d.t.Fatalf("a table of the inode %d tells nothing", ino)
		}
	}
	add(0, i.Direct[:])
	if i.Single != 0 {
		d.take(i.Single, who)
		add(12, tableOf(d.body(i.Single, 8, ino, gen, 0)))
	}
	if i.Double != 0 {
		d.take(i.Double, who)
		some := false
		for a, n := range tableOf(d.body(i.Double, 9, ino, gen, 0)) {
			if n != 0 {
				some = true
				d.take(n, who)
				add(124+112*a, tableOf(d.body(n, 8, ino, gen, 1+a)))
			}
		}
		if !some {
			d.t.Fatalf("the tables of the inode %d tell nothing", ino)
		}
	}
	return at
}

// countNames counts what a directory names, and all below it.
func (d *disk) countNames(dir int) {
	d.t.Helper()
	for i, x := range d.tree.things[dir].slots {
		if x.Name == "" {
			continue
		}
		if x.Ino < 2 || x.Ino >= len(d.tree.things) || d.tree.things[x.Ino].kind == 0 || d.tree.things[x.Ino].gen != x.Gen || (x.Ino == 2) != (dir == 1 && i == 0) {
			d.t.Fatalf("the slot %d of %d leads nowhere: %v", i, dir, x)
		}
		d.names[x.Ino]++
		if d.tree.things[x.Ino].kind != 2 {
			continue
		}
		if d.names[x.Ino] > 1 || d.tree.things[x.Ino].parent != dir {
			d.t.Fatalf("the directory %d is in %d, and has the parent %d and %d names", x.Ino, dir, d.tree.things[x.Ino].parent, d.names[x.Ino])
		}
		d.countNames(x.Ino)
	}
}

// wantLinks is that each inode has the names that it says.
func (d *disk) wantLinks() {
	d.t.Helper()
	d.names[1]++
	for ino, x := range d.tree.things {
		parent := x.parent
		if x.kind == 2 {
			parent = 0
		}
		if d.names[ino] != x.links || parent != 0 || ino == 1 && x.parent != 1 {
			d.t.Fatalf("the inode %d says %d names and the parent %d; it has %d", ino, x.links, x.parent, d.names[ino])
		}
	}
}

// wantRoot is that the root is over the tags of what is used, from the grids on.
func (d *disk) wantRoot() {
	d.t.Helper()
	if root := rootOver(d.v, d.tags()); root != d.super.Root {
		d.t.Fatalf("the root %x; want %x", d.super.Root, root)
	}
}

func (d *disk) tags() []string {
	var tags []string
	for at := range d.super.Live {
		tag := blank(16)
		if at >= 27 && d.has[at] != "" {
			tag = rawAt(d.p, at)[496:]
		}
		tags = append(tags, tag)
	}
	return tags
}
