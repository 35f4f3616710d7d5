package survey_test

import (
	"strconv"
	"testing"

	"grapnel/api"
	"grapnel/block"
	"grapnel/plate"
	"grapnel/vault"
)

// The inodes of what is stored: lost+found, /a, /d, /s, /big and /x are in the slots 0 to 5 of the root.
const (
	inoA    = 3  // /a: a file with holes and all tables
	inoD    = 4  // /d: b, e, and names of b; two blocks
	inoB    = 5  // /d/b, with 219 names
	inoS    = 6  // /s leads to /d/b
	inoE    = 7  // /d/e: f
	inoF    = 8  // /d/e/f
	inoBig  = 9  // /big: thirteen blocks, the last of which a table tells
	inoX    = 10 // /x: an empty directory, of the generation 2
	inoGone = 11 // a file that is no more, whose block still stands
)

var indicesOfA = []int{0, 1, 11, 12, 13, 123, 124, 125, 235, 236, 12667}

// stored is a file system of 160 blocks with much in it, and the evidence of it.
func stored(t testing.TB, v *vault.Vault) (*plate.Plate, api.Evidence) {
	t.Helper()
	p := made(t, v, 160)
	f := mounted(t, p, v)
	all(t, f.Create("/a"), f.Mkdir("/d"), f.Create("/d/b"), f.Symlink("/d/b", "/s"), f.Mkdir("/d/e"), f.Create("/d/e/f"), f.Mkdir("/big"), f.Create("/x"), f.Create("/gone"))
	fill(t, f, "/a", indicesOfA...)
	fill(t, f, "/d/b", 0, 2)
	fill(t, f, "/d/e/f", 0)
	fill(t, f, "/gone", 0)
	for i := range 200 {
		all(t, f.Link("/d/b", "/big/n"+strconv.Itoa(i)))
		if i < 18 {
			all(t, f.Link("/d/b", "/d/n"+strconv.Itoa(i)))
		}
	}
	all(t, f.Sync(), f.Remove("/gone"), f.Remove("/x"), f.Mkdir("/x"), f.Leave())
	return p, gathered(t, v, 160, block.All(p))
}

// scene is an evidence that is changed.
type scene struct {
	t testing.TB
	x api.Evidence
	l api.Layout
}

func newScene(t testing.TB, x api.Evidence) *scene {
	t.Helper()
	return &scene{t: t, x: copied(x), l: layoutOf(t, x.Live)}
}

func (s *scene) nodeAt(ino int) int { return s.l.Table + ino - 1 }

func (s *scene) inode(ino int) api.Inode {
	s.t.Helper()
	return inodeOf(s.t, s.x.Readings[s.nodeAt(ino)].Body)
}

// say changes what an inode says.
func (s *scene) say(ino int, change func(i *api.Inode)) {
	s.t.Helper()
	i := s.inode(ino)
	change(&i)
	s.x.Readings[s.nodeAt(ino)].Body = inodeText(s.t, i)
}

func (s *scene) gen(ino int) int { return s.x.Readings[s.nodeAt(ino)].Head.Gen }

// inner is where a table stands: the inode's own at 0, those of its tables from 1 on; 0: nowhere.
func (s *scene) inner(ino, table int) int {
	s.t.Helper()
	i := s.inode(ino)
	switch {
	case table == 0:
		return i.Single
	case i.Double == 0:
		return 0
	}
	return s.table(i.Double)[table-1]
}

func (s *scene) table(at int) []int {
	s.t.Helper()
	return tableOf(s.t, s.x.Readings[at].Body)
}

// point changes a number in a table.
func (s *scene) point(at, place, to int) {
	s.t.Helper()
	l := s.table(at)
	l[place] = to
	s.x.Readings[at].Body = tableText(s.t, l)
}

// at is where the block of an index stands; 0: there is none.
func (s *scene) at(ino, index int) int {
	s.t.Helper()
	if index < 12 {
		return s.inode(ino).Direct[index]
	}
	table := s.inner(ino, (index-12)/112)
	if table == 0 {
		return 0
	}
	return s.table(table)[(index-12)%112]
}

// lose makes nothing of what stands at addresses.
func (s *scene) lose(l ...int) {
	for _, at := range l {
		s.x.Readings[at] = api.Reading{}
	}
}

// loseInode makes nothing of an inode.
func (s *scene) loseInode(l ...int) {
	for _, ino := range l {
		s.lose(s.nodeAt(ino))
	}
}

// head changes the head of what stands at an address.
func (s *scene) head(at int, change func(h *api.Head)) { change(&s.x.Readings[at].Head) }

// put lets a block stand at an address, where nothing did.
func (s *scene) put(at, kind, ino, gen, index, version int, body string) {
	s.t.Helper()
	if s.x.Readings[at].Ok {
		s.t.Fatalf("something stands at %d", at)
	}
	s.x.Readings[at] = reading(at, kind, ino, gen, index, version, body)
}

// moved lets a block stand at another address, where nothing did; there is none at the old one.
func (s *scene) moved(at, to int) {
	s.t.Helper()
	r := s.x.Readings[at]
	s.put(to, r.Head.Kind, r.Head.Ino, r.Head.Gen, r.Head.Index, r.Head.Version, r.Body)
	s.lose(at)
}

// slot changes a slot of a directory's block.
func (s *scene) slot(at, place int, x api.Entry) {
	s.t.Helper()
	l := pageOf(s.t, s.x.Readings[at].Body)
	l[place] = x
	s.x.Readings[at].Body = pageText(s.t, l)
}

// slots is all slots of a directory, free ones where it has no block.
func (s *scene) slots(ino int) []api.Entry {
	s.t.Helper()
	var l []api.Entry
	for index := range s.inode(ino).Size / 448 {
		page := make([]api.Entry, 16)
		if at := s.at(ino, index); at != 0 {
			page = pageOf(s.t, s.x.Readings[at].Body)
		}
		l = append(l, page...)
	}
	return l
}

// free is the first address of the data, from the end on, at which nothing stands; the second, and so on.
func (s *scene) free(n int) int {
	s.t.Helper()
	for at := s.x.Live - 1; at >= s.l.Data; at-- {
		if !s.x.Readings[at].Ok {
			if n == 0 {
				return at
			}
			n--
		}
	}
	s.t.Fatal("nothing is free")
	return 0
}

// f is a finding.
func f(code int, abc ...int) api.Finding {
	x := api.Finding{Code: code}
	for i, n := range abc {
		*[]*int{&x.A, &x.B, &x.C}[i] = n
	}
	return x
}

// trial is a change of an evidence, what must be found, and what must hold of the evidence behind the verdict.
type trial struct {
	name   string
	change func(s *scene)
	found  []api.Finding
	then   func(t *testing.T, s *scene)
}

// try makes the change, and tells the verdict.
func try(t *testing.T, x api.Evidence, c trial) api.Verdict {
	t.Helper()
	s := newScene(t, x)
	c.change(s)
	was := copied(s.x)
	got := judged(t, c.name, s.x)
	same(t, c.name+": what was handed in", s.x, was)
	same(t, c.name+": Findings", got.Findings, rising(c.found))
	y := settled(t, c.name, s.x, got)
	wantWell(t, c.name, y)
	if c.then != nil {
		c.then(t, newScene(t, y))
	}
	return got
}

func tryAll(t *testing.T, l []trial) {
	t.Helper()
	_, x := stored(t, vault.Ideal())
	for _, c := range l {
		try(t, x, c)
	}
}

// wantSlots holds the slots of a directory that have names against the ones that must be.
func wantSlots(t *testing.T, s *scene, ino int, must ...string) {
	t.Helper()
	var l []string
	for i, x := range s.slots(ino) {
		if x.Name != "" {
			l = append(l, strconv.Itoa(i)+" "+x.Name+" "+strconv.Itoa(x.Ino)+" "+strconv.Itoa(x.Gen))
		}
	}
	same(t, "the slots of "+strconv.Itoa(ino), l, must)
}
