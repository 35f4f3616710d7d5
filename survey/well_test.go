package survey_test

import (
	"strconv"
	"testing"

	"grapnel/api"
)

// leaf is a file or directory as a reader comes upon it: its bytes, its own blocks, and those of the directories above it.
type leaf struct {
	ino, gen, kind, size int
	data                 string
	own, above           []int
}

// reader reads an evidence from the root on, as a file system would, and fails where something is not as it must be.
type reader struct {
	t     testing.TB
	what  string
	s     *scene
	has   map[int]string
	names map[int]int
	tree  map[string]leaf
}

// wantWell tells that an evidence is that of a file system in which nothing is amiss, and what is in it, by paths.
func wantWell(t testing.TB, what string, x api.Evidence) map[string]leaf {
	t.Helper()
	r := &reader{t: t, what: what, s: newScene(t, x), has: map[int]string{}, names: map[int]int{1: 1}, tree: map[string]leaf{}}
	var nodes, used []int
	blocks := map[int][]int{}
	for ino := 1; ino <= r.s.l.Inodes; ino++ {
		i := inodeOf(t, r.body(r.s.nodeAt(ino), 5, ino, r.s.gen(ino), 0))
		if i.Kind == 0 {
			if i != (api.Inode{}) {
				t.Fatalf("%s: the free inode %d: %+v", what, ino, i)
			}
			continue
		}
		nodes = append(nodes, ino-1)
		blocks[ino] = r.blocks(ino, i)
	}
	r.walk("/", 1, 1, nil, blocks)
	for _, i := range nodes {
		is, ino := r.s.inode(i+1), i+1
		if r.names[ino] != is.Links || is.Kind != 2 && is.Parent != 0 {
			t.Fatalf("%s: the inode %d has %d names: %+v", what, ino, r.names[ino], is)
		}
	}
	for at := range x.Live {
		if at < r.s.l.Data || r.has[at] != "" {
			used = append(used, at)
		}
	}
	if r.body(27, 3, 0, 0, 0) != gridText(t, x.Live, used...) || r.body(28, 4, 0, 0, 0) != gridText(t, r.s.l.Inodes, nodes...) {
		t.Fatalf("%s: the grids are not as they must be", what)
	}
	return r.tree
}

// body is what stands at an address, which must be that block.
func (r *reader) body(at, kind, ino, gen, index int) string {
	r.t.Helper()
	x := r.s.x.Readings[at]
	if h := x.Head; !x.Ok || h.Kind != kind || h.Ino != ino || h.Gen != gen || h.Index != index {
		r.t.Fatalf("%s: at %d stands %v %+v; want the block %d of the kind %d of the inode %d, %d", r.what, at, x.Ok, h, index, kind, ino, gen)
	}
	return x.Body
}

// take is that somebody has an address.
func (r *reader) take(at int, who string) {
	r.t.Helper()
	if at < r.s.l.Lost || at >= r.s.x.Live || r.has[at] != "" {
		r.t.Fatalf("%s: %s has %d, which is %q's", r.what, who, at, r.has[at])
	}
	r.has[at] = who
}

// blocks is where an inode's own blocks stand.
func (r *reader) blocks(ino int, i api.Inode) []int {
	r.t.Helper()
	who, gen := "inode "+strconv.Itoa(ino), r.s.gen(ino)
	l := []int{r.s.nodeAt(ino)}
	kind := 7
	if i.Kind == 2 {
		kind = 6
	}
	add := func(first int, numbers []int) {
		some := first == 0
		for k, at := range numbers {
			if at == 0 {
				continue
			}
			some = true
			if (first+k)*448 >= i.Size {
				r.t.Fatalf("%s: the inode %d of the size %d has the index %d", r.what, ino, i.Size, first+k)
			}
			r.take(at, who)
			r.body(at, kind, ino, gen, first+k)
			l = append(l, at)
		}
		if !some {
			r.t.Fatalf("%s: a table of the inode %d tells nothing", r.what, ino)
		}
	}
	add(0, i.Direct[:])
	if i.Single != 0 {
		r.take(i.Single, who)
		l = append(l, i.Single)
		add(12, tableOf(r.t, r.body(i.Single, 8, ino, gen, 0)))
	}
	if i.Double == 0 {
		return l
	}
	r.take(i.Double, who)
	l = append(l, i.Double)
	some := false
	for a, at := range tableOf(r.t, r.body(i.Double, 9, ino, gen, 0)) {
		if at != 0 {
			some = true
			r.take(at, who)
			l = append(l, at)
			add(124+112*a, tableOf(r.t, r.body(at, 8, ino, gen, 1+a)))
		}
	}
	if !some {
		r.t.Fatalf("%s: the tables of the inode %d tell nothing", r.what, ino)
	}
	return l
}

// walk reads a directory, and all that is in it.
func (r *reader) walk(path string, dir, parent int, above []int, blocks map[int][]int) {
	r.t.Helper()
	i := r.s.inode(dir)
	if i.Kind != 2 || i.Parent != parent {
		r.t.Fatalf("%s: the directory %d in %d: %+v", r.what, dir, parent, i)
	}
	r.tree[path] = leaf{ino: dir, gen: r.s.gen(dir), kind: 2, size: i.Size, own: blocks[dir], above: above}
	above = append(append([]int{}, above...), blocks[dir]...)
	for k, x := range r.s.slots(dir) {
		if x.Name == "" {
			continue
		}
		if x.Ino < 2 || x.Ino > r.s.l.Inodes || r.s.inode(x.Ino).Kind == 0 || r.s.gen(x.Ino) != x.Gen || (x.Ino == 2) != (dir == 1 && k == 0) {
			r.t.Fatalf("%s: the slot %d of %d leads nowhere: %v", r.what, k, dir, x)
		}
		r.names[x.Ino]++
		child, n := path+x.Name, r.s.inode(x.Ino)
		if _, twice := r.tree[child]; twice {
			r.t.Fatalf("%s: %s is there twice", r.what, child)
		}
		if n.Kind == 2 {
			if r.names[x.Ino] > 1 {
				r.t.Fatalf("%s: the directory %d has two names", r.what, x.Ino)
			}
			r.walk(child+"/", x.Ino, dir, above, blocks)
			continue
		}
		r.tree[child] = leaf{ino: x.Ino, gen: x.Gen, kind: n.Kind, size: n.Size, data: r.data(x.Ino, n), own: blocks[x.Ino], above: above}
	}
}

// data is an inode's bytes, of the indices that it has, each behind its number.
func (r *reader) data(ino int, i api.Inode) string {
	r.t.Helper()
	s := ""
	at := func(first int, numbers []int) {
		for k, at := range numbers {
			if at != 0 {
				s += strconv.Itoa(first+k) + ":" + r.s.x.Readings[at].Body
			}
		}
	}
	at(0, i.Direct[:])
	if i.Single != 0 {
		at(12, r.s.table(i.Single))
	}
	if i.Double != 0 {
		for a, n := range r.s.table(i.Double) {
			if n != 0 {
				at(124+112*a, r.s.table(n))
			}
		}
	}
	return s
}
