package survey_test

import (
	"slices"
	"strconv"
	"testing"

	"grapnel/api"
	"grapnel/chart"
	"grapnel/pack"
	"grapnel/path"
	"grapnel/shelf"
)

// A verdict as the chapter's words say it, step by step, slowly: what every verdict is held against.

// owner is who has an address: which block of an inode it is.
type owner struct{ kind, ino, index int }

// inode is an inode on its way to what it must become.
type inode struct {
	whole      bool
	gen        int
	is         api.Inode
	slots      []api.Entry
	names      int
	place      int
	had, table map[int]int // by index; by place, its own table at -1
	tables     int
}

type court struct {
	t     testing.TB
	x     api.Evidence
	l     api.Layout
	who   map[int]owner
	nodes []inode // 0 is none
	found []api.Finding
}

func model(t testing.TB, x api.Evidence) api.Verdict {
	l, e := chart.Layout(x.Live)
	if e != api.OK || len(x.Readings) != x.Live {
		return api.Verdict{}
	}
	c := &court{t: t, x: x, l: l, who: map[int]owner{}, nodes: make([]inode, l.Inodes+1)}
	if !x.Has {
		c.tell(1)
	}
	if x.Has && !x.Rooted {
		c.tell(2)
	}
	for i := 1; i <= l.Inodes; i++ {
		c.readNode(i)
	}
	var torn [][2]int
	for i := 1; i <= l.Inodes; i++ {
		torn = append(torn, c.pieces(i)...)
	}
	for _, x := range torn {
		c.again(x[0], x[1])
	}
	for i := 1; i <= l.Inodes; i++ {
		c.path(i)
	}
	c.names()
	c.orphans()
	for i := 1; i <= l.Inodes; i++ {
		c.links(i)
	}
	out := api.Verdict{}
	for _, r := range x.Readings {
		if r.Ok {
			out.Authentic++
		}
	}
	for at := range x.Live {
		if at < l.Data || c.who[at] != (owner{}) {
			out.Used = append(out.Used, at)
		}
	}
	for at := l.Blocks; at < l.Live; at++ {
		w, ok := c.must(at, out.Used)
		if !ok {
			continue
		}
		stands := c.reads(at, w.Kind, w.Ino, w.Gen, w.Index) && x.Readings[at].Body == w.Body
		if at <= l.Nodes && !stands {
			c.tell(11, at-l.Blocks+1)
		}
		if !stands || slices.Contains(x.Stale, at) {
			out.Wants = append(out.Wants, w)
		}
	}
	out.Findings = slices.Compact(rising(c.found))
	return out
}

func (c *court) tell(code int, abc ...int) {
	f := api.Finding{Code: code}
	for i, n := range abc {
		*[]*int{&f.A, &f.B, &f.C}[i] = n
	}
	c.found = append(c.found, f)
}

// reads tells whether a reading at an address is of a kind, inode, generation and index.
func (c *court) reads(at, kind, ino, gen, index int) bool {
	r := c.x.Readings[at]
	return r.Ok && r.Head.Kind == kind && r.Head.Ino == ino && r.Head.Gen == gen && r.Head.Index == index
}

func (c *court) readNode(i int) {
	n := &c.nodes[i]
	n.had, n.table = map[int]int{}, map[int]int{}
	r := c.x.Readings[c.l.Table+i-1]
	body, e := pack.InodeOf(r.Body)
	size := body.Size
	n.whole = r.Ok && r.Head.Kind == 5 && r.Head.Ino == i && r.Head.Index == 0 && e == api.OK && size <= 5675264
	n.whole = n.whole && (body.Kind != 2 || size%448 == 0 && size <= c.l.Live*448)
	n.whole = n.whole && (i > 2 || body.Kind == 2)
	n.whole = n.whole && (i != 1 || size > 0) && (i != 2 || size == c.l.LostBlocks*448)
	if n.whole {
		n.gen, n.is = r.Head.Gen, body
		return
	}
	c.tell(3, i)
	// What is put in brackets there is the greatest where there is none, not the generation behind it.
	greatest := 0
	var gens []int
	for _, r := range c.x.Readings {
		if r.Ok && r.Head.Ino == i {
			gens = append(gens, r.Head.Gen)
		}
	}
	if len(gens) > 0 {
		greatest = slices.Max(gens)
	}
	n.gen = greatest + 1
	if i <= 2 {
		n.is = api.Inode{Kind: 2, Size: []int{448, c.l.LostBlocks * 448}[i-1]}
	}
}

// kind is that of the blocks of an inode's bytes or slots.
func (n *inode) kind() int {
	if n.is.Kind == 2 {
		return 6
	}
	return 7
}

// span is how many indices an inode has.
func (n *inode) span() int { return (n.is.Size + 447) / 448 }

// piece tells whether an address is a piece.
func (c *court) piece(at, kind, i, index int) bool {
	if at < c.l.Data || at >= c.l.Live || c.who[at] != (owner{}) || !c.reads(at, kind, i, c.nodes[i].gen, index) {
		return false
	}
	_, e := shelf.Page(c.x.Readings[at].Body)
	return kind != 6 || e == api.OK
}

// pieces is the second step of an inode: its torn tables, by the places in its tables, -1 its own.
func (c *court) pieces(i int) (torn [][2]int) {
	n := &c.nodes[i]
	if n.is.Kind == 0 {
		return nil
	}
	always := 0
	if i <= 2 {
		always = []int{1, c.l.LostBlocks}[i-1]
	}
	for index := range always {
		at := []int{c.l.Root, c.l.Lost}[i-1] + index
		n.had[index] = at
		_, e := shelf.Page(c.x.Readings[at].Body)
		if n.whole && (!c.reads(at, 6, i, n.gen, index) || e != api.OK) {
			c.tell(5, i, index)
		}
	}
	take := func(index, at int) {
		switch {
		case index >= n.span() || index < always || at == 0:
		case c.piece(at, n.kind(), i, index):
			c.who[at] = owner{n.kind(), i, index}
			n.had[index] = at
		default:
			c.tell(5, i, index)
		}
	}
	table := func(place, at, first int) {
		switch {
		case first >= n.span() || at == 0:
		case c.piece(at, 8, i, place+1):
			c.who[at] = owner{8, i, place + 1}
			n.table[place] = at
			for k, to := range c.numbers(at) {
				take(first+k, to)
			}
		default:
			c.tell(4, i, map[bool]int{true: 1, false: 3 + place}[place == -1])
			torn = append(torn, [2]int{i, place})
		}
	}
	for k, at := range n.is.Direct {
		take(k, at)
	}
	table(-1, n.is.Single, 12)
	if n.span() > 124 && n.is.Double != 0 {
		if !c.piece(n.is.Double, 9, i, 0) {
			c.tell(4, i, 2)
			return torn
		}
		c.who[n.is.Double] = owner{9, i, 0}
		n.tables = n.is.Double
		for a, at := range c.numbers(n.tables) {
			table(a, at, 124+112*a)
		}
	}
	return torn
}

func (c *court) numbers(at int) []int {
	l, _ := chart.Table(c.x.Readings[at].Body)
	return l
}

// again is the third step of a torn table.
func (c *court) again(i, place int) {
	n := &c.nodes[i]
	at, first := n.is.Single, 12
	if place >= 0 {
		at, first = c.numbers(n.tables)[place], 124+112*place
	}
	if at < c.l.Data || at >= c.l.Live || c.who[at] != (owner{}) {
		return
	}
	for index := first; index < first+112 && index < n.span(); index++ {
		best := 0
		for to := c.l.Data; to < c.l.Live; to++ {
			if to != at && c.piece(to, n.kind(), i, index) && (best == 0 || c.x.Readings[to].Head.Version > c.x.Readings[best].Head.Version) {
				best = to
			}
		}
		if best > 0 {
			c.who[best], c.who[at] = owner{n.kind(), i, index}, owner{8, i, place + 1}
			n.had[index], n.table[place] = best, at
			c.tell(6, i, index, best)
		}
	}
}

// path is the third step of an inode that leads elsewhere.
func (c *court) path(i int) {
	n := &c.nodes[i]
	if n.is.Kind != 3 {
		return
	}
	if at, ok := n.had[0]; ok && n.is.Size <= 255 && n.is.Size <= len(c.x.Readings[at].Body) {
		if _, e := path.Split(c.x.Readings[at].Body[:n.is.Size]); e == api.OK {
			return
		}
	}
	c.tell(12, i)
	for at, o := range c.who {
		if o.ino == i {
			c.who[at] = owner{}
		}
	}
	n.is, n.had, n.table, n.tables = api.Inode{}, nil, nil, 0
}

// names is the fourth and fifth step.
func (c *court) names() {
	for i := range c.nodes {
		n := &c.nodes[i]
		if n.is.Kind != 2 {
			continue
		}
		n.slots = make([]api.Entry, 16*n.span())
		for index, at := range n.had {
			if l, e := shelf.Page(c.x.Readings[at].Body); e == api.OK && c.reads(at, 6, i, n.gen, index) {
				copy(n.slots[16*index:], l)
			}
		}
	}
	must := api.Entry{Name: "lost+found", Ino: 2, Gen: c.nodes[2].gen}
	if was := c.nodes[1].slots[0]; was != must && was != (api.Entry{}) {
		c.tell(7, 1, 0)
	}
	c.nodes[1].slots[0] = must
	c.nodes[1].place, c.nodes[2].place = 1, 1
	c.from([]int{1, 2})
}

// leads is the inode that a slot leads to; 0: none.
func (c *court) leads(x api.Entry) int {
	if x.Ino < 1 || x.Ino > c.l.Inodes || c.nodes[x.Ino].is.Kind == 0 || c.nodes[x.Ino].gen != x.Gen || x.Name == "" {
		return 0
	}
	return x.Ino
}

// from goes through the names of directories that wait.
func (c *court) from(row []int) {
	for k := 0; k < len(row); k++ {
		n := &c.nodes[row[k]]
		right := shelf.Right(n.slots)
		for s, x := range n.slots {
			if x == (api.Entry{}) || row[k] == 1 && s == 0 {
				continue
			}
			to := c.leads(x)
			if !right[s] || to <= 2 || c.nodes[to].is.Kind == 2 && c.nodes[to].place != 0 {
				c.tell(7, row[k], s)
				n.slots[s] = api.Entry{}
				continue
			}
			c.nodes[to].names++
			if c.nodes[to].is.Kind == 2 {
				c.nodes[to].place = row[k]
				row = append(row, to)
			}
		}
	}
}

// orphans is the sixth step.
func (c *court) orphans() {
	for {
		next, any := 0, 0
		for i, n := range c.nodes {
			if n.is.Kind != 2 || n.place != 0 {
				continue
			}
			if any == 0 {
				any = i
			}
			named := false
			for k, other := range c.nodes {
				if k == i || other.is.Kind != 2 || other.place != 0 {
					continue
				}
				for _, x := range other.slots {
					named = named || c.leads(x) == i
				}
			}
			if !named && next == 0 {
				next = i
			}
		}
		if any == 0 {
			break
		}
		if next == 0 {
			next = any
		}
		c.adopt(next)
		c.from([]int{next})
	}
	for i, n := range c.nodes {
		if (n.is.Kind == 1 || n.is.Kind == 3) && n.names == 0 {
			c.adopt(i)
		}
	}
}

func (c *court) adopt(i int) {
	c.tell(8, i)
	lost := c.nodes[2].slots
	for s := range lost {
		if lost[s].Name == "" {
			lost[s] = api.Entry{Name: strconv.Itoa(i), Ino: i, Gen: c.nodes[i].gen}
			break
		}
	}
	c.nodes[i].names++
	if c.nodes[i].is.Kind == 2 {
		c.nodes[i].place = 2
	}
}

// links is the seventh step.
func (c *court) links(i int) {
	n := &c.nodes[i]
	if n.is.Kind == 0 {
		return
	}
	links, parent := n.names, 0
	if n.is.Kind == 2 {
		links, parent = 1, n.place
	}
	if n.whole && n.is.Links != links {
		c.tell(9, i, n.is.Links, links)
	}
	if n.whole && n.is.Parent != parent {
		c.tell(10, i, n.is.Parent, parent)
	}
	n.is.Links, n.is.Parent = links, parent
	outer := make([]int, 112)
	for place := -1; place < 112; place++ {
		at, ok := n.table[place]
		if ok && slices.Max(n.row(place)) == 0 {
			c.who[at] = owner{}
			at = 0
		}
		if place < 0 {
			n.is.Single = at
		} else {
			outer[place] = at
		}
	}
	if n.tables != 0 && slices.Max(outer) == 0 {
		c.who[n.tables] = owner{}
		n.tables = 0
	}
	n.is.Double = n.tables
	for k := range n.is.Direct {
		n.is.Direct[k] = n.had[k]
	}
}

// row is what a table must tell.
func (n *inode) row(place int) []int {
	l := make([]int, 112)
	for k := range l {
		l[k] = n.had[124+112*place+k]
	}
	return l
}

// must is what must stand at an address.
func (c *court) must(at int, used []int) (api.Want, bool) {
	l := c.l
	switch {
	case at == l.Blocks:
		return api.Want{Address: at, Kind: 3, Body: gridText(c.t, l.Live, used...)}, true
	case at == l.Nodes:
		var nodes []int
		for i, n := range c.nodes {
			if n.is.Kind != 0 {
				nodes = append(nodes, i-1)
			}
		}
		return api.Want{Address: at, Kind: 4, Body: gridText(c.t, l.Inodes, nodes...)}, true
	case at < l.Lost:
		i := at - l.Table + 1
		return api.Want{Address: at, Kind: 5, Ino: i, Gen: c.nodes[i].gen, Body: inodeText(c.t, c.nodes[i].is)}, true
	}
	o := c.who[at]
	if at < l.Root {
		o = owner{6, 2, at - l.Lost}
	} else if at == l.Root {
		o = owner{6, 1, 0}
	}
	n := &c.nodes[o.ino]
	w := api.Want{Address: at, Kind: o.kind, Ino: o.ino, Gen: n.gen, Index: o.index, Body: c.x.Readings[at].Body}
	switch o.kind {
	case 6:
		w.Body, _ = shelf.Body(n.slots[16*o.index : 16*o.index+16])
	case 8:
		w.Body = tableText(c.t, n.row(o.index-1))
	case 9:
		outer := make([]int, 112)
		for k := range outer {
			if at := n.table[k]; c.who[at] == (owner{8, o.ino, k + 1}) {
				outer[k] = at
			}
		}
		w.Body = tableText(c.t, outer)
	}
	return w, o != owner{}
}
