package tree_test

import (
	"encoding/hex"
	"fmt"
	"math"
	"math/rand"
	"slices"
	"strings"
	"testing"
	"unsafe"

	"grapnel/api"
	"grapnel/tree"
	"grapnel/vault"
)

// number is a hash of the ideal vault.
func number(n int) string { return inSix(n) + strings.Repeat("\x00", 26) }

// wrongPlaces is places that no tree of n leaves has.
func wrongPlaces(n int) []int {
	return []int{-1, -2, -n - 1, n, n + 1, n + 4, 4*n + 4, 1 << 32, 1 << 48, math.MaxInt, math.MinInt}
}

// 7.1, 7.3: the count, the root and the paths of each size.
func TestNew(t *testing.T) {
	forAll(t, func(t *testing.T, k kind, n int) {
		wantTree(t, "New", tree.New(k.vault, texts(n)), k.hash, texts(n))
	})
}

// 7.1: each size up to three rows above the leaves.
func TestNewSizes(t *testing.T) {
	v := vault.Ideal()
	for n := range 70 {
		wantTree(t, "New", tree.New(v, texts(n)), v.Hash, texts(n))
	}
}

// 7.1: leaves that are alike, empty, long, or look like what is hashed above them.
func TestNewTexts(t *testing.T) {
	for _, k := range bothKinds(t) {
		for _, leaves := range [][]string{
			{""}, {"", ""}, {"", "", "", "", ""}, {"a", "a", "a", "a", "a", "a"},
			{"\x00"}, {"\x01", "\x02", "\x00\x00"}, {strings.Repeat("long", 3000), "\xff\xfe"},
			{k.hash("\x00a") + k.hash("\x00b"), "\x01" + k.hash("\x00a")},
		} {
			wantTree(t, k.name, tree.New(k.vault, leaves), k.hash, leaves)
		}
	}
}

// 7.1: the root of no leaves is that of six bytes 0 and no top.
func TestRootOfNone(t *testing.T) {
	for _, k := range bothKinds(t) {
		for _, leaves := range [][]string{nil, {}} {
			x := tree.New(k.vault, leaves)
			if got, want := x.Root(), k.hash("\x02\x00\x00\x00\x00\x00\x00"); got != want || len(got) != 32 {
				t.Errorf("%s: Root of no leaves: %x; want %x", k.name, got, want)
			}
			if n := x.Count(); n != 0 {
				t.Errorf("%s: Count of no leaves: %d", k.name, n)
			}
		}
	}
}

// 7.1: the words spelt out for five leaves, each hash by its number under the ideal vault.
func TestRootSpelt(t *testing.T) {
	v := vault.Ideal()
	for i, s := range []string{
		"\x00a", "\x00b", "\x00c", "\x00d", "\x00e",
		"\x01" + number(1) + number(2) + number(3) + number(4),
		"\x01" + number(5),
		"\x01" + number(6) + number(7),
		"\x02\x05\x00\x00\x00\x00\x00" + number(8),
	} {
		if got := v.Hash(s); got != number(i+1) {
			t.Fatalf("Hash %d: %x", i+1, got)
		}
	}
	x := tree.New(v, []string{"a", "b", "c", "d", "e"})
	if got := x.Root(); got != number(9) {
		t.Errorf("Root: %x; want the number 9", got)
	}
	if got := v.Hash("the next"); got != number(10) {
		t.Errorf("the next hash: %x; want the number 10: other texts were hashed", got)
	}
}

// 7.1: under the real vault of SHA-256, as another program tells it.
func TestRootReal(t *testing.T) {
	v := bothKinds(t)[0].vault
	for _, c := range []struct{ leaves, want string }{
		{"", "8c25daedfd927a09d77d8398fd409f4c8a522ddf35a7b9d2200ca5dbda4181bf"},
		{"a", "2d9e7e988269882be65e3cb9c2c63fa818625ee4fa7247ea832b85e5f6b34645"},
		{"a b c d e", "e4ecd2afde46505371dc52f055a3dc24e95e8c976a754300184b448bde07cb4d"},
	} {
		x := tree.New(v, strings.Fields(c.leaves))
		if got := hex.EncodeToString([]byte(x.Root())); got != c.want {
			t.Errorf("Root of %q: %s; want %s", c.leaves, got, c.want)
		}
	}
}

// 7.1: a nil tree, and one that New did not give.
func TestNotGiven(t *testing.T) {
	for name, x := range map[string]*tree.Tree{"nil": nil, "zero": {}, "new": new(tree.Tree)} {
		for _, i := range []int{0, 1, -1, math.MaxInt, math.MinInt} {
			if e := x.Set(i, "a"); e != api.ErrRange {
				t.Errorf("%s: Set(%d): error %d", name, i, e)
			}
			if path, e := x.Path(i); len(path) != 0 || e != api.ErrRange {
				t.Errorf("%s: Path(%d): %v, error %d", name, i, path, e)
			}
		}
		if n := x.Count(); n != 0 {
			t.Errorf("%s: Count %d", name, n)
		}
		if s := x.Root(); s != "" {
			t.Errorf("%s: Root %x", name, s)
		}
	}
}

// A vault that nobody gave hashes all to the empty text; the tree is the one over these, and no root of it is taken.
func TestVaultNotGiven(t *testing.T) {
	nothing := func(string) string { return "" }
	for name, v := range notGiven() {
		for _, n := range sizes {
			leaves := texts(n)
			x := tree.New(v, leaves)
			wantTree(t, name, x, nothing, leaves)
			for i := range leaves {
				leaves[i] += "!"
				if e := x.Set(i, leaves[i]); e != api.OK {
					t.Fatalf("%s: Set(%d) of %d: error %d", name, i, n, e)
				}
			}
			wantTree(t, name, x, nothing, leaves)
			wantNoLeaf(t, x, n)
		}
	}
}

// wantNoLeaf asks for ErrRange at each place outside of a tree of n leaves.
func wantNoLeaf(t *testing.T, x *tree.Tree, n int) {
	t.Helper()
	for _, i := range wrongPlaces(n) {
		if e := x.Set(i, "another"); e != api.ErrRange {
			t.Fatalf("Set(%d) of %d: error %d", i, n, e)
		}
		if path, e := x.Path(i); len(path) != 0 || e != api.ErrRange {
			t.Fatalf("Path(%d) of %d: %x, error %d", i, n, path, e)
		}
	}
}

// 7.2: each leaf changed, alone, and then back.
func TestSet(t *testing.T) {
	forAll(t, func(t *testing.T, k kind, n int) {
		leaves := texts(n)
		x := tree.New(k.vault, leaves)
		for i := range leaves {
			changed := slices.Clone(leaves)
			changed[i] = "another"
			if e := x.Set(i, "another"); e != api.OK {
				t.Fatalf("Set(%d) of %d: error %d", i, n, e)
			}
			wantTree(t, "Set", x, k.hash, changed)
			if e := x.Set(i, leaves[i]); e != api.OK {
				t.Fatalf("Set(%d) of %d, back: error %d", i, n, e)
			}
			wantTree(t, "Set back", x, k.hash, leaves)
		}
	})
}

// 7.2: Sets one behind the other, each on top of those ahead, empty texts and the same text again among them.
func TestSetRow(t *testing.T) {
	forAll(t, func(t *testing.T, k kind, n int) {
		leaves := texts(n)
		x := tree.New(k.vault, leaves)
		chance := rand.New(rand.NewSource(int64(n)))
		for step := range min(3*n, 60) {
			i := chance.Intn(n)
			s := []string{"", leaves[i], leaves[chance.Intn(n)], fmt.Sprint(step)}[chance.Intn(4)]
			leaves[i] = s
			if e := x.Set(i, s); e != api.OK {
				t.Fatalf("Set(%d) of %d: error %d", i, n, e)
			}
			wantTree(t, "Sets", x, k.hash, leaves)
		}
	})
}

// 7.2, 7.3, R2: at no leaf ErrRange, and nothing is changed: neither the tree nor what the vault numbered.
func TestErrRange(t *testing.T) {
	forAll(t, func(t *testing.T, k kind, n int) {
		x := tree.New(k.vault, texts(n))
		wantNoLeaf(t, x, n)
		wantTree(t, "behind errors", x, k.hash, texts(n))
	})
	v := vault.Ideal()
	x := tree.New(v, texts(3))
	wantNoLeaf(t, x, 3)
	if got := v.Hash("the next"); got != number(5) {
		t.Errorf("the next hash behind errors: %x; want the number 5", got)
	}
}

// The chapter's head: a text is changed by as many hashes as the tree has rows.
func TestSetHashes(t *testing.T) {
	for _, c := range []struct{ n, rows int }{{1, 1}, {2, 2}, {4, 2}, {5, 3}, {16, 3}, {17, 4}, {64, 4}, {65, 5}} {
		for i := range c.n {
			v := vault.Ideal()
			x := tree.New(v, texts(c.n))
			ahead := countOf(v.Hash("ahead"))
			if e := x.Set(i, "another"); e != api.OK {
				t.Fatalf("Set(%d) of %d: error %d", i, c.n, e)
			}
			if hashes := countOf(v.Hash("behind")) - ahead - 1; hashes != c.rows {
				t.Fatalf("Set(%d) of %d: %d hashes; want %d", i, c.n, hashes, c.rows)
			}
		}
	}
}

// countOf is the number that a hash of the ideal vault is.
func countOf(hash string) int {
	n := 0
	for i := range 6 {
		n |= int(hash[i]) << (8 * i)
	}
	return n
}

// R3: a tree keeps no list that it was handed, nor a text's memory, and changes none.
func TestNewKeepsNothing(t *testing.T) {
	forAll(t, func(t *testing.T, k kind, n int) {
		behind := append(texts(n), "behind", "the end")
		leaves := behind[:n]
		x := tree.New(k.vault, leaves)
		if !slices.Equal(behind, append(texts(n), "behind", "the end")) {
			t.Fatal("New changed its leaves")
		}
		for i := range behind {
			behind[i] = "changed"
		}
		wantTree(t, "leaves changed behind New", x, k.hash, texts(n))
		for i := range n {
			if e := x.Set(i, "set"); e != api.OK || behind[i] != "changed" {
				t.Fatalf("Set(%d): error %d, %q", i, e, behind[i])
			}
		}
	})
	v := vault.Ideal()
	b := []byte("loose text")
	x := tree.New(v, []string{unsafe.String(&b[0], len(b)), "b"})
	copy(b, "OTHER")
	wantTree(t, "a text's memory", x, v.Hash, []string{"loose text", "b"})
}

// 7.1, 7.2: trees of one vault, of both kinds, know nothing of each other.
func TestTwoTrees(t *testing.T) {
	for _, k := range bothKinds(t) {
		a, b := texts(17), texts(17)
		x, y := tree.New(k.vault, a), tree.New(k.vault, a)
		for i := range a {
			a[i] += "a"
			x.Set(i, a[i])
			wantTree(t, k.name, y, k.hash, b)
			b[16-i] += "b"
			y.Set(16-i, b[16-i])
			wantTree(t, k.name, x, k.hash, a)
		}
	}
}

// 7.1: the same text at another place, and fewer or more leaves, have another root.
func TestRootsUnlike(t *testing.T) {
	for _, k := range bothKinds(t) {
		seen := map[string]string{}
		for _, leaves := range [][]string{
			{}, {""}, {"", ""}, {"a"}, {"a", ""}, {"", "a"}, {"a", "a"}, {"a", "b"}, {"b", "a"}, {"ab"}, {"ab", ""},
			{"a", "b", "c", "d"}, {"a", "b", "c", "d", ""}, {"abcd"}, {"", "a", "b", "c", "d"},
			{k.hash("\x00a") + k.hash("\x00b")}, {"\x01" + k.hash("\x00a") + k.hash("\x00b")},
			{"a", "a", "a", "a"}, {"a", "a", "a", "a", "a"},
		} {
			root := tree.New(k.vault, leaves).Root()
			if other, ok := seen[root]; ok {
				t.Errorf("%s: %q has the root of %s", k.name, leaves, other)
			}
			seen[root] = fmt.Sprintf("%q", leaves)
		}
	}
}

// R4: the same calls have the same answers, and Root, Count and Path change nothing.
func TestSameAnswers(t *testing.T) {
	tell := func(v *vault.Vault) string {
		x := tree.New(v, texts(21))
		s := ""
		for i := range 25 {
			path, e := x.Path(i)
			s += fmt.Sprintf("%x %x %d %x %d\n", x.Root(), path, e, x.Root(), x.Set(20-i, "s"))
		}
		return s + fmt.Sprint(x.Count())
	}
	if tell(vault.Ideal()) != tell(vault.Ideal()) {
		t.Error("the same calls have other answers")
	}
}

// 7.1, 7.2: more leaves than any device has sectors.
func TestManyLeaves(t *testing.T) {
	for _, k := range bothKinds(t) {
		leaves := texts(api.MaxSectors + 1)
		x := tree.New(k.vault, leaves)
		for _, i := range []int{0, 1 << 14, api.MaxSectors - 1, api.MaxSectors} {
			leaves[i] = "another"
			if e := x.Set(i, "another"); e != api.OK {
				t.Fatalf("%s: Set(%d): error %d", k.name, i, e)
			}
			path := mustPath(t, x, i)
			if !samePath(path, pathOf(k.hash, leaves, i)) {
				t.Fatalf("%s: Path(%d) is another one", k.name, i)
			}
			if tree.Check(k.vault, x.Root(), len(leaves), i, "another", path) {
				t.Errorf("%s: Check at %d takes more than MaxSectors leaves", k.name, i)
			}
		}
		if x.Count() != len(leaves) || x.Root() != rootOf(k.hash, leaves) {
			t.Errorf("%s: Count %d, Root %x", k.name, x.Count(), x.Root())
		}
		wantNoLeaf(t, x, len(leaves))
	}
}
