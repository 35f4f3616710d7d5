package survey_test

import (
	"fmt"
	"reflect"
	"slices"
	"strconv"
	"strings"
	"testing"

	"grapnel/api"
	"grapnel/block"
	"grapnel/chart"
	"grapnel/grid"
	"grapnel/pack"
	"grapnel/plate"
	"grapnel/shelf"
	"grapnel/survey"
	"grapnel/vault"
	"grapnel/vfs"
)

var noAnchor = api.Anchor{Epoch: -1}

func realVault(t testing.TB) *vault.Vault {
	t.Helper()
	v, e := vault.Real("pass phrase", "salt", 2)
	want(t, "vault.Real", e, api.OK)
	return v
}

// onVaults runs a test under a new vault of each kind.
func onVaults(t *testing.T, run func(t *testing.T, v *vault.Vault)) {
	for name, v := range map[string]*vault.Vault{"ideal": vault.Ideal(), "real": realVault(t)} {
		t.Run(name, func(t *testing.T) {
			t.Parallel()
			run(t, v)
		})
	}
}

// want holds an error against the one that must be.
func want(t testing.TB, what string, e, must api.Errno) {
	t.Helper()
	if e != must {
		t.Fatalf("%s: error %d; want %d", what, e, must)
	}
}

func layoutOf(t testing.TB, live int) api.Layout {
	t.Helper()
	l, e := chart.Layout(live)
	want(t, "chart.Layout", e, api.OK)
	return l
}

// made is an empty file system on a device of a living part.
func made(t testing.TB, v *vault.Vault, live int) *plate.Plate {
	t.Helper()
	p, e := plate.New(8 * layoutOf(t, live).Total)
	want(t, "plate.New", e, api.OK)
	want(t, "Make", vfs.Make(p, v, 7), api.OK)
	return p
}

func mounted(t testing.TB, p *plate.Plate, v *vault.Vault) *vfs.FS {
	t.Helper()
	f, e := vfs.Mount(p, v, noAnchor)
	want(t, "Mount", e, api.OK)
	return f
}

// all does calls that must be OK.
func all(t testing.TB, calls ...api.Errno) {
	t.Helper()
	for i, e := range calls {
		if e != api.OK {
			t.Fatalf("the call %d: error %d", i, e)
		}
	}
}

// fill writes texts into a file at the beginnings of indices.
func fill(t testing.TB, f *vfs.FS, s string, indices ...int) {
	t.Helper()
	fd, e := f.Open(s)
	want(t, "Open", e, api.OK)
	for _, index := range indices {
		all(t, f.Write(fd, 448*index, s+" "+strconv.Itoa(index)))
	}
	all(t, f.Close(fd))
}

func gathered(t testing.TB, v *vault.Vault, live int, im api.Image) api.Evidence {
	t.Helper()
	x, e := survey.Gather(v, live, im)
	want(t, "Gather", e, api.OK)
	return x
}

// copied is an evidence that shares no list with another one.
func copied(x api.Evidence) api.Evidence {
	x.Readings, x.Stale = slices.Clone(x.Readings), slices.Clone(x.Stale)
	return x
}

// reading is a block that is authentic at an address.
func reading(at, kind, ino, gen, index, version int, body string) api.Reading {
	return api.Reading{Ok: true, Head: api.Head{Volume: 7, Address: at, Kind: kind, Ino: ino, Gen: gen, Index: index, Version: version, Salt: 1}, Body: body}
}

func inodeText(t testing.TB, i api.Inode) string {
	t.Helper()
	s, e := pack.Inode(i)
	want(t, "pack.Inode", e, api.OK)
	return s
}

func inodeOf(t testing.TB, s string) api.Inode {
	t.Helper()
	i, e := pack.InodeOf(s)
	want(t, "pack.InodeOf", e, api.OK)
	return i
}

func pageText(t testing.TB, l []api.Entry) string {
	t.Helper()
	s, e := shelf.Body(append(slices.Clone(l), make([]api.Entry, 16-len(l))...))
	want(t, "shelf.Body", e, api.OK)
	return s
}

func pageOf(t testing.TB, s string) []api.Entry {
	t.Helper()
	l, e := shelf.Page(s)
	want(t, "shelf.Page", e, api.OK)
	return l
}

func tableText(t testing.TB, l []int) string {
	t.Helper()
	s, e := chart.Body(l)
	want(t, "chart.Body", e, api.OK)
	return s
}

func tableOf(t testing.TB, s string) []int {
	t.Helper()
	l, e := chart.Table(s)
	want(t, "chart.Table", e, api.OK)
	return l
}

// gridText is a grid of n of which these are used.
func gridText(t testing.TB, n int, used ...int) string {
	t.Helper()
	g, e := grid.New(n)
	want(t, "grid.New", e, api.OK)
	for _, i := range used {
		all(t, g.Put(i, true))
	}
	return g.Body()
}

func blank(n int) string { return strings.Repeat("\x00", n) }

// filled is n bytes that are not alike, others for each seed.
func filled(seed, n int) string {
	b := make([]byte, n)
	for i := range b {
		b[i] = byte(1 + (seed*131+i*7+i/251*13)%255)
	}
	return string(b)
}

func upTo(first, n int) []int {
	var l []int
	for i := range n {
		l = append(l, first+i)
	}
	return l
}

// rising is findings in order.
func rising(l []api.Finding) []api.Finding {
	l = slices.Clone(l)
	slices.SortFunc(l, func(a, b api.Finding) int {
		for _, d := range []int{a.Code - b.Code, a.A - b.A, a.B - b.B} {
			if d != 0 {
				return d
			}
		}
		return a.C - b.C
	})
	return l
}

// brief is what something looks like, as far as a line has room for it.
func brief(x any) string {
	s := fmt.Sprintf("%+v", x)
	return s[:min(len(s), 1500)]
}

// same holds two values against each other; an empty list is none.
func same(t testing.TB, what string, got, must any) {
	t.Helper()
	g, m := reflect.ValueOf(got), reflect.ValueOf(must)
	if g.Kind() == reflect.Slice && g.Len() == 0 && m.Len() == 0 {
		return
	}
	if !reflect.DeepEqual(got, must) {
		t.Fatalf("%s: %s; want %s", what, brief(got), brief(must))
	}
}

// behind is the evidence that there would be if all that is wanted stood there.
func behind(x api.Evidence, c api.Verdict) api.Evidence {
	y := copied(x)
	y.Has, y.Kept, y.Rooted, y.Stale = true, true, true, nil
	for i, w := range c.Wants {
		y.Readings[w.Address] = reading(w.Address, w.Kind, w.Ino, w.Gen, w.Index, 1000000+i, w.Body)
	}
	return y
}

// settled tells that nothing would be found, nor wanted, if all that is wanted stood there: 14.4.
func settled(t testing.TB, what string, x api.Evidence, c api.Verdict) api.Evidence {
	t.Helper()
	y := behind(x, c)
	if d := survey.Judge(y); len(d.Findings) != 0 || len(d.Wants) != 0 {
		t.Fatalf("%s: behind the verdict: findings %v, wanted %s; of the verdict: findings %v, wanted %s", what, d.Findings, brief(d.Wants), c.Findings, brief(c.Wants))
	}
	return y
}

// wellTold tells that a verdict has the form that is promised, whatever it is of: findings rise, what is wanted stands at rising addresses that are used.
func wellTold(t testing.TB, what string, x api.Evidence, c api.Verdict) {
	t.Helper()
	for i, f := range c.Findings {
		if i > 0 && !slices.Equal(rising([]api.Finding{f, c.Findings[i-1]}), []api.Finding{c.Findings[i-1], f}) || i > 0 && f == c.Findings[i-1] {
			t.Fatalf("%s: findings %v", what, c.Findings)
		}
	}
	if !slices.IsSorted(c.Used) || len(slices.Compact(slices.Clone(c.Used))) != len(c.Used) {
		t.Fatalf("%s: used %v", what, c.Used)
	}
	last := -1
	for _, w := range c.Wants {
		if w.Address <= last || !slices.Contains(c.Used, w.Address) {
			t.Fatalf("%s: wanted %s; used %v", what, brief(c.Wants), c.Used)
		}
		last = w.Address
	}
	for i := range c.Used {
		if c.Used[i] < 0 || c.Used[i] >= x.Live {
			t.Fatalf("%s: used %v", what, c.Used)
		}
	}
}

// judged is a verdict, held against the model's, and of the form that is promised.
func judged(t testing.TB, what string, x api.Evidence) api.Verdict {
	t.Helper()
	c, must := survey.Judge(x), model(t, x)
	same(t, what+": Authentic", c.Authentic, must.Authentic)
	same(t, what+": Findings", c.Findings, must.Findings)
	same(t, what+": Used", c.Used, must.Used)
	same(t, what+": Wants", c.Wants, must.Wants)
	wellTold(t, what, x, c)
	return c
}

// repaired is a device's image behind all that is wanted, sealed, with a superblock of the root that there is then.
func repaired(t testing.TB, v *vault.Vault, im api.Image, x api.Evidence, c api.Verdict) api.Image {
	t.Helper()
	next := api.Super{Volume: 7, Epoch: x.Super.Epoch + 1, Next: x.Super.Next, Live: x.Live}
	for _, r := range x.Readings {
		next.Next = max(next.Next, r.Head.Version+1)
		next.Epoch = max(next.Epoch, r.Head.Salt+1)
	}
	var ws []api.Write
	for _, w := range c.Wants {
		h := api.Head{Volume: 7, Address: w.Address, Kind: w.Kind, Ino: w.Ino, Gen: w.Gen, Index: w.Index, Version: next.Next, Salt: next.Epoch}
		raw, e := block.Seal(v, h, w.Body)
		want(t, "block.Seal", e, api.OK)
		ws = append(ws, api.Write{Address: w.Address, Raw: raw})
		next.Next++
	}
	im = survey.Over(im, ws)
	next.Root = rootOf(t, v, im, x.Live, c.Used)
	return survey.Over(im, []api.Write{superBlock(t, v, next)})
}
