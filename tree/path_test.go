package tree_test

import (
	"fmt"
	"math"
	"math/rand"
	"slices"
	"strings"
	"testing"

	"grapnel/api"
	"grapnel/tree"
	"grapnel/vault"
)

// claim is what Check is asked: that a text stands at a place of so many, by a path to a root.
type claim struct {
	top  string
	n, i int
	text string
	path []api.Step
}

func (c claim) check(v *vault.Vault) bool { return tree.Check(v, c.top, c.n, c.i, c.text, c.path) }

// claimOf is what a tree over some leaves tells of one of them.
func claimOf(t *testing.T, v *vault.Vault, leaves []string, i int) claim {
	t.Helper()
	x := tree.New(v, leaves)
	return claim{x.Root(), len(leaves), i, leaves[i], mustPath(t, x, i)}
}

func wantTaken(t *testing.T, v *vault.Vault, c claim) {
	t.Helper()
	if !c.check(v) {
		t.Fatalf("Check at %d of %d, %q: false", c.i, c.n, c.text)
	}
}

func wantRefused(t *testing.T, what string, v *vault.Vault, c claim) {
	t.Helper()
	if c.check(v) {
		t.Fatalf("Check at %d of %d, %q, with %s: true (%x)", c.i, c.n, c.text, what, c.path)
	}
}

// forClaims is a test for each leaf of each tree under each kind of vault.
func forClaims(t *testing.T, f func(t *testing.T, k kind, c claim)) {
	t.Helper()
	forAll(t, func(t *testing.T, k kind, n int) {
		for i := range n {
			f(t, k, claimOf(t, k.vault, texts(n), i))
		}
	})
}

// The chapter's examples, and paths of other ends of fours.
func TestPathExamples(t *testing.T) {
	for _, c := range []struct {
		n, i int
		want string
	}{
		{1, 0, ""}, {2, 1, "1:1"}, {4, 3, "3:3"}, {4, 0, "0:3"},
		{5, 4, "0:0 1:1"}, {5, 0, "0:3 0:1"}, {5, 3, "3:3 0:1"}, {6, 4, "0:1 1:1"},
		{16, 6, "2:3 1:3"}, {17, 16, "0:0 0:0 1:1"}, {17, 15, "3:3 3:3 0:1"}, {65, 64, "0:0 0:0 0:0 1:1"},
	} {
		var shape []string
		x := tree.New(vault.Ideal(), texts(c.n))
		for _, s := range mustPath(t, x, c.i) {
			shape = append(shape, fmt.Sprintf("%d:%d", s.At, len(s.Sides)))
		}
		if got := strings.Join(shape, " "); got != c.want {
			t.Errorf("Path(%d) of %d: %q; want %q", c.i, c.n, got, c.want)
		}
	}
}

// 7.3: the others of a four, in order, by their numbers under the ideal vault.
func TestPathSides(t *testing.T) {
	x := tree.New(vault.Ideal(), texts(6))
	for i, want := range [][]api.Step{
		{{At: 0, Sides: []string{number(2), number(3), number(4)}}, {At: 0, Sides: []string{number(8)}}},
		{{At: 1, Sides: []string{number(1), number(3), number(4)}}, {At: 0, Sides: []string{number(8)}}},
		{{At: 2, Sides: []string{number(1), number(2), number(4)}}, {At: 0, Sides: []string{number(8)}}},
		{{At: 3, Sides: []string{number(1), number(2), number(3)}}, {At: 0, Sides: []string{number(8)}}},
		{{At: 0, Sides: []string{number(6)}}, {At: 1, Sides: []string{number(7)}}},
		{{At: 1, Sides: []string{number(5)}}, {At: 1, Sides: []string{number(7)}}},
	} {
		if got := mustPath(t, x, i); !samePath(got, want) {
			t.Errorf("Path(%d): %x; want %x", i, got, want)
		}
	}
}

// R3: what Path hands out is the asker's own: neither the tree nor another list of the answer changes with it.
func TestPathIsNew(t *testing.T) {
	forAll(t, func(t *testing.T, k kind, n int) {
		x := tree.New(k.vault, texts(n))
		for i := range n {
			path := mustPath(t, x, i)
			before := copied(path)
			for j := range path {
				// What is appended lies behind the list's end in its memory.
				_ = append(path[j].Sides, "grown", "grown", "grown", "grown")
			}
			_ = append(path, api.Step{At: 9})
			if !samePath(path, before) {
				t.Fatalf("Path(%d): its lists share memory", i)
			}
			for j := range path {
				for m := range path[j].Sides {
					path[j].Sides[m] = "changed"
				}
				path[j] = api.Step{At: 7, Sides: []string{"x"}}
			}
			wantTree(t, "a path changed behind Path", x, k.hash, texts(n))
		}
	})
}

// R3: a path stays what it was when the tree is changed behind it.
func TestPathStays(t *testing.T) {
	forAll(t, func(t *testing.T, k kind, n int) {
		x := tree.New(k.vault, texts(n))
		var paths [][]api.Step
		for i := range n {
			paths = append(paths, mustPath(t, x, i))
		}
		for i := range n {
			x.Set(i, "changed")
		}
		for i := range n {
			if !samePath(paths[i], pathOf(k.hash, texts(n), i)) {
				t.Fatalf("Path(%d) changed with the tree", i)
			}
		}
	})
}

// 7.3, 7.4: Check takes what Path tells, behind New and behind Sets.
func TestCheckTakes(t *testing.T) {
	forClaims(t, func(t *testing.T, k kind, c claim) { wantTaken(t, k.vault, c) })
	forAll(t, func(t *testing.T, k kind, n int) {
		x := tree.New(k.vault, texts(n))
		for i := range n {
			old := claim{x.Root(), n, i, texts(n)[i], mustPath(t, x, i)}
			x.Set(i, "set")
			wantTaken(t, k.vault, old)
			wantTaken(t, k.vault, claim{x.Root(), n, i, "set", mustPath(t, x, i)})
			old.top = x.Root()
			wantRefused(t, "the root behind Set", k.vault, old)
		}
	})
}

// 7.3: the empty path of one leaf, and no other one.
func TestCheckOfOne(t *testing.T) {
	for _, k := range bothKinds(t) {
		root := k.hash("\x02\x01\x00\x00\x00\x00\x00" + k.hash("\x00a"))
		for _, path := range [][]api.Step{nil, {}} {
			wantTaken(t, k.vault, claim{root, 1, 0, "a", path})
			wantRefused(t, "another text", k.vault, claim{root, 1, 0, "b", path})
			wantRefused(t, "no leaves", k.vault, claim{root, 0, 0, "a", path})
			wantRefused(t, "two leaves", k.vault, claim{root, 2, 0, "a", path})
			wantRefused(t, "another place", k.vault, claim{root, 1, 1, "a", path})
		}
		wantRefused(t, "a step", k.vault, claim{root, 1, 0, "a", []api.Step{{}}})
	}
}

// cut is a text without its last byte.
func cut(s string) string { return s[:len(s)-1] }

// flipped is a text with one bit of a byte changed.
func flipped(s string, at int) string {
	b := []byte(s)
	b[at] ^= 1
	return string(b)
}

// 7.3: each other top, the empty one among them.
func TestCheckTop(t *testing.T) {
	forClaims(t, func(t *testing.T, k kind, c claim) {
		rows := rowsOf(k.hash, texts(c.n))
		tops := []string{"", cut(c.top), c.top[1:], c.top + "\x00", c.top + c.top, strings.Repeat("\x00", 32), rows[0][c.i], rows[len(rows)-1][0], rootOf(k.hash, texts(c.n+1)), rootOf(k.hash, nil)}
		for at := range c.top {
			tops = append(tops, flipped(c.top, at))
		}
		for _, top := range tops {
			bent := c
			bent.top = top
			wantRefused(t, "another top", k.vault, bent)
		}
	})
}

// 7.3: each other number of leaves, each other place, each other text.
func TestCheckNumbers(t *testing.T) {
	forClaims(t, func(t *testing.T, k kind, c claim) {
		for _, n := range []int{0, c.n - 1, c.n + 1, 4 * c.n, c.n + 1<<32, c.n + 1<<48, -1, -c.n, api.MaxSectors, api.MaxSectors + 1, math.MaxInt, math.MinInt} {
			bent := c
			bent.n = n
			wantRefused(t, "another n", k.vault, bent)
		}
		for _, i := range append(wrongPlaces(c.n), c.i+4*c.n, c.i-4, c.i-16, c.i-c.n, c.i-64) {
			bent := c
			bent.i = i
			if i < 0 || i >= c.n {
				wantRefused(t, "a place outside", k.vault, bent)
			}
		}
		for i := range c.n {
			bent := c
			bent.i = i
			if i != c.i {
				wantRefused(t, "another leaf", k.vault, bent)
			}
		}
		hash := k.hash("\x00" + c.text)
		for _, s := range []string{c.text + "\x00", "\x00" + c.text, c.text + "x", "another", hash, "\x00" + hash} {
			bent := c
			bent.text = s
			wantRefused(t, "another text", k.vault, bent)
		}
	})
}

// 7.3: a step too few, at each place, and a step too many, at each place.
func TestCheckSteps(t *testing.T) {
	forClaims(t, func(t *testing.T, k kind, c claim) {
		more := []api.Step{{}, {At: 1, Sides: []string{number(1)}}, {At: 0, Sides: []string{number(1), number(2), number(3)}}}
		for j := range len(c.path) + 1 {
			bent := c
			for _, s := range append(more, c.path...) {
				bent.path = slices.Insert(copied(c.path), j, s)
				wantRefused(t, "a step too many", k.vault, bent)
			}
			if j < len(c.path) {
				bent.path = slices.Delete(copied(c.path), j, j+1)
				wantRefused(t, "a step too few", k.vault, bent)
				bent.path = copied(c.path)[:j]
				wantRefused(t, "steps too few", k.vault, bent)
			}
		}
	})
}

// 7.3: each At another one.
func TestCheckAt(t *testing.T) {
	forClaims(t, func(t *testing.T, k kind, c claim) {
		for j, s := range c.path {
			for _, at := range []int{-1, 0, 1, 2, 3, 4, s.At + 4, s.At - 4, math.MaxInt, math.MinInt} {
				bent := c
				bent.path = copied(c.path)
				bent.path[j].At = at
				if at != s.At {
					wantRefused(t, fmt.Sprint("At ", at), k.vault, bent)
				}
			}
		}
	})
}

// bentSides is lists of Sides that are not these, by one of them.
func bentSides(sides []string, m int) [][]string {
	side := sides[m]
	with := func(s ...string) []string { return slices.Replace(slices.Clone(sides), m, m+1, s...) }
	all := [][]string{
		with(), with(side, side), with(cut(side)), with(side[1:]), with(side + "\x00"), with("\x00" + side), with(""), with(side + side), with(side, ""), with("", side),
		with(side[:16], side[16:]), slices.Insert(slices.Clone(sides), 0, side), append(slices.Clone(sides), side), nil,
	}
	for at := range side {
		all = append(all, with(flipped(side, at)))
	}
	return all
}

// 7.3: each Side changed, left out, doubled, of 31 and of 33 bytes.
func TestCheckSides(t *testing.T) {
	forClaims(t, func(t *testing.T, k kind, c claim) {
		for j, s := range c.path {
			bent := c
			for m := range s.Sides {
				for _, sides := range bentSides(s.Sides, m) {
					bent.path = copied(c.path)
					bent.path[j].Sides = sides
					wantRefused(t, "other Sides", k.vault, bent)
				}
			}
			bent.path = copied(c.path)
			bent.path[j].Sides = append(bent.path[j].Sides, number(1))
			wantRefused(t, "a Side more", k.vault, bent)
			slices.Reverse(bent.path[j].Sides)
			wantRefused(t, "a Side more, turned about", k.vault, bent)
			bent.path = copied(c.path)
			slices.Reverse(bent.path[j].Sides)
			if len(s.Sides) > 1 {
				wantRefused(t, "Sides turned about", k.vault, bent)
			}
		}
	})
}

// 7.3: Sides of 31 and 33 bytes that are, one behind the other, the right bytes, and so have the right hash.
func TestCheckSidesCutOtherwise(t *testing.T) {
	forClaims(t, func(t *testing.T, k kind, c claim) {
		for j, s := range c.path {
			for m := range len(s.Sides) - 1 {
				if m+1 == s.At {
					continue // the hash itself stands between these two
				}
				a, b := s.Sides[m], s.Sides[m+1]
				for _, pair := range [][2]string{{a[:31], a[31:] + b}, {a + b[:1], b[1:]}, {a + b, ""}, {"", a + b}} {
					bent := c
					bent.path = copied(c.path)
					copy(bent.path[j].Sides[m:], pair[:])
					wantRefused(t, "Sides cut otherwise", k.vault, bent)
				}
			}
		}
	})
}

// led is the root to which a text is led by a path, whatever its shape; false, if a step has no such place.
func led(hash func(string) string, n int, text string, path []api.Step) (string, bool) {
	h := hash("\x00" + text)
	for _, s := range path {
		if s.At < 0 || s.At > len(s.Sides) {
			return "", false
		}
		h = hash("\x01" + strings.Join(slices.Insert(slices.Clone(s.Sides), s.At, h), ""))
	}
	return hash("\x02" + inSix(n) + h), true
}

// shapes is all paths of so many steps, with each At and up to four Sides of 32 bytes.
func shapes(steps int) [][]api.Step {
	if steps == 0 {
		return [][]api.Step{nil}
	}
	var all [][]api.Step
	for _, path := range shapes(steps - 1) {
		for sides := range 5 {
			for at := range sides + 1 {
				s := api.Step{At: at}
				for m := range sides {
					s.Sides = append(s.Sides, number(1000+m))
				}
				all = append(all, append(slices.Clone(path), s))
			}
		}
	}
	return all
}

// shapeOf tells the places of a path, and how many Sides there are.
func shapeOf(path []api.Step) string {
	s := ""
	for _, x := range path {
		s += fmt.Sprint(x.At, ":", len(x.Sides), " ")
	}
	return s
}

// 7.3: a path whose hashes lead to the top is taken just if its steps are those of a path from that leaf.
func TestCheckShape(t *testing.T) {
	v := vault.Ideal()
	var paths [][]api.Step
	for steps := range 4 {
		paths = append(paths, shapes(steps)...)
	}
	for _, n := range []int{0, 1, 2, 3, 4, 5, 7, 8, 9, 16, 17, 20, 64, 65} {
		for i := range n + 1 {
			want := "none"
			if i < n {
				want = shapeOf(pathOf(v.Hash, texts(n), i))
			}
			for _, path := range paths {
				top, ok := led(v.Hash, n, "text", path)
				if got := tree.Check(v, top, n, i, "text", path); got != (ok && shapeOf(path) == want) {
					t.Fatalf("Check at %d of %d by %s: %t; want the shape %s", i, n, shapeOf(path), got, want)
				}
			}
		}
	}
}

// 7.3: Sides of another length are refused, also where the hashes over them lead to the top.
func TestCheckSideLengths(t *testing.T) {
	forClaims(t, func(t *testing.T, k kind, c claim) {
		for j, s := range c.path {
			for m := range s.Sides {
				for _, length := range []int{0, 1, 31, 32, 33, 64} {
					bent := c
					bent.path = copied(c.path)
					bent.path[j].Sides[m] = strings.Repeat("s", length)
					bent.top, _ = led(k.hash, c.n, c.text, bent.path)
					if bent.check(k.vault) != (length == 32) {
						t.Fatalf("Check at %d of %d, a Side of %d bytes: %t", c.i, c.n, length, length != 32)
					}
				}
			}
		}
	})
}

// filledPath is a path of the right shape from a leaf of n, over hashes that no tree has.
func filledPath(n, i int) []api.Step {
	var path []api.Step
	for size := n; size > 1; size = (size + 3) / 4 {
		s := api.Step{At: i % 4}
		for range min(4, size-i/4*4) - 1 {
			s.Sides = append(s.Sides, number(5000+len(path)))
		}
		path, i = append(path, s), i/4
	}
	return path
}

// 7.3: n up to MaxSectors, none beyond, at its first, some, and its last leaf; i up to n - 1.
func TestCheckBounds(t *testing.T) {
	for _, k := range bothKinds(t) {
		for _, n := range []int{1, 4, 257, api.MaxSectors - 1, api.MaxSectors, api.MaxSectors + 1, api.MaxSectors + 2, 1 << 16, 1<<16 + 1, 1 << 30} {
			for _, i := range []int{0, n / 2, n - 1} {
				path := filledPath(n, i)
				top, _ := led(k.hash, n, "text", path)
				if got := tree.Check(k.vault, top, n, i, "text", path); got != (n <= 32768) {
					t.Errorf("%s: Check at %d of %d: %t", k.name, i, n, got)
				}
			}
			for _, i := range []int{n, n + 1, -1} {
				path := filledPath(n, max(i, 0))
				if top, ok := led(k.hash, n, "text", path); ok && tree.Check(k.vault, top, n, i, "text", path) {
					t.Errorf("%s: Check at %d of %d: true", k.name, i, n)
				}
			}
		}
		top, _ := led(k.hash, 0, "text", nil)
		if tree.Check(k.vault, top, 0, 0, "text", nil) {
			t.Errorf("%s: Check at 0 of 0: true", k.name)
		}
	}
}

// 7.3: a tree of as many leaves as there may be.
func TestCheckMaxSectors(t *testing.T) {
	for _, k := range bothKinds(t) {
		leaves := texts(api.MaxSectors)
		x := tree.New(k.vault, leaves)
		top := x.Root()
		for _, i := range []int{0, 1, 5, 1 << 14, api.MaxSectors - 2, api.MaxSectors - 1} {
			c := claim{top, len(leaves), i, leaves[i], mustPath(t, x, i)}
			wantTaken(t, k.vault, c)
			c.text += "x"
			wantRefused(t, "another text", k.vault, c)
		}
	}
}

// A vault that nobody gave takes nothing, neither its own trees' roots nor others'.
func TestCheckVaultNotGiven(t *testing.T) {
	for name, v := range notGiven() {
		for _, n := range sizes {
			x := tree.New(v, texts(n))
			ideal := vault.Ideal()
			for i := range n {
				for _, c := range []claim{claimOf(t, v, texts(n), i), claimOf(t, ideal, texts(n), i)} {
					wantRefused(t, name, v, c)
					c.top = ""
					wantRefused(t, name, v, c)
					c.top = x.Root()
					wantRefused(t, name, v, c)
				}
			}
			for _, i := range wrongPlaces(n) {
				wantRefused(t, name, v, claim{"", n, i, "", nil})
				wantRefused(t, name, v, claim{"top", n, i, "", nil})
			}
		}
	}
}

// R3: Check changes neither a path nor what lies behind its lists' ends.
func TestCheckChangesNothing(t *testing.T) {
	forClaims(t, func(t *testing.T, k kind, c claim) {
		steps := append(copied(c.path), api.Step{At: 9, Sides: []string{"behind"}})
		for j := range c.path {
			steps[j].Sides = append(steps[j].Sides, "behind", "the end", "of a", "list")
		}
		before := copied(steps)
		for j := range c.path {
			steps[j].Sides = steps[j].Sides[:len(c.path[j].Sides)]
		}
		handed := claim{c.top, c.n, c.i, c.text, steps[:len(c.path)]}
		wantTaken(t, k.vault, handed)
		handed.text = "another"
		wantRefused(t, "another text", k.vault, handed)
		for j := range c.path {
			steps[j].Sides = steps[j].Sides[:len(before[j].Sides)]
		}
		if !samePath(steps, before) {
			t.Fatalf("Check changed what it was handed: %x; was %x", steps, before)
		}
	})
}

// bend is a claim of which chance changes a part, by hashes of the tree as well as by others.
func bend(c claim, hashes []string, chance *rand.Rand) claim {
	hash := func() string { return hashes[chance.Intn(len(hashes))] }
	c.path = copied(c.path)
	j := 0
	if len(c.path) > 0 {
		j = chance.Intn(len(c.path))
	}
	switch chance.Intn(9) {
	case 0:
		c.i = chance.Intn(c.n+2) - 1
	case 1:
		c.n = max(1, c.n+chance.Intn(5)-2)
	case 2:
		c.text = []string{"", "x1", "other", hash(), hash() + hash(), hash() + hash() + hash() + hash(), "\x00" + c.text, "\x01" + hash()}[chance.Intn(8)]
	case 3:
		c.path = slices.Insert(c.path, j, api.Step{At: chance.Intn(2), Sides: []string{hash()}})
	case 4:
		c.path = slices.Delete(c.path, j, min(j+1, len(c.path)))
	case 5:
		c.path = append(c.path, api.Step{})
	default:
		if len(c.path) > 0 {
			s := &c.path[j]
			s.At = chance.Intn(4)
			from := chance.Intn(len(s.Sides) + 1)
			to := min(from+chance.Intn(2), len(s.Sides))
			s.Sides = slices.Replace(s.Sides, from, to, slices.Repeat([]string{hash()}, chance.Intn(3))...)
		}
	}
	return c
}

// 7.4: under the ideal vault just the right text is taken at a place of a tree's root, by just its path, however claims are bent.
func TestCheckIsNeverDeceived(t *testing.T) {
	v := vault.Ideal()
	chance := rand.New(rand.NewSource(7))
	for _, n := range []int{1, 2, 3, 4, 5, 6, 13, 16, 17, 20, 21, 64, 65} {
		leaves := texts(n)
		x := tree.New(v, leaves)
		hashes := append(slices.Concat(rowsOf(v.Hash, leaves)...), x.Root(), number(1<<40))
		for range 6000 {
			i := chance.Intn(n)
			c := claim{x.Root(), n, i, leaves[i], mustPath(t, x, i)}
			for range 1 + chance.Intn(3) {
				c = bend(c, hashes, chance)
			}
			right := c.n == n && c.i >= 0 && c.i < n && c.text == leaves[max(0, min(c.i, n-1))] && samePath(c.path, pathOf(v.Hash, leaves, c.i))
			if c.check(v) != right {
				t.Fatalf("Check at %d of %d, %q by %x: %t", c.i, c.n, c.text, c.path, !right)
			}
		}
	}
}

// 7.4: neither a node in the place of a leaf, nor a tree of other leaves above the same node, passes.
func TestCheckNodeAsLeaf(t *testing.T) {
	for _, k := range bothKinds(t) {
		x := tree.New(k.vault, texts(16))
		rows := rowsOf(k.hash, texts(16))
		for i, four := range slices.Collect(slices.Chunk(rows[0], 4)) {
			path := mustPath(t, x, 4*i)[1:]
			for _, s := range []string{strings.Join(four, ""), "\x01" + strings.Join(four, ""), rows[1][i]} {
				wantRefused(t, "a node as a leaf of four", k.vault, claim{x.Root(), 4, i, s, path})
				wantRefused(t, "a node as a leaf", k.vault, claim{x.Root(), 16, i, s, path})
				wantRefused(t, "a node as a leaf, by a leaf's path", k.vault, claim{x.Root(), 16, i, s, mustPath(t, x, i)})
			}
		}
	}
}
