package tree_test

import (
	"crypto/sha256"
	"encoding/binary"
	"fmt"
	"slices"
	"strings"
	"testing"

	"grapnel/api"
	"grapnel/tree"
	"grapnel/vault"
)

// sizes is of trees: around each whole number of fours.
var sizes = []int{0, 1, 2, 3, 4, 5, 16, 17, 64, 65}

// kind is a vault, and what hashes as it must. The real one's is Go's own; the ideal one has no other than itself.
type kind struct {
	name  string
	vault *vault.Vault
	hash  func(string) string
}

func bothKinds(t *testing.T) []kind {
	t.Helper()
	v, e := vault.Real("pass phrase", "salt", 2)
	if v == nil || e != api.OK {
		t.Fatalf("Real: vault %v, error %d", v != nil, e)
	}
	ideal := vault.Ideal()
	return []kind{{"real", v, sha}, {"ideal", ideal, ideal.Hash}}
}

func sha(s string) string {
	d := sha256.Sum256([]byte(s))
	return string(d[:])
}

// notGiven is vaults that neither vault.Real nor vault.Ideal gave.
func notGiven() map[string]*vault.Vault { return map[string]*vault.Vault{"nil": nil, "zero": {}} }

// forAll is a test for each kind of vault and each size of tree.
func forAll(t *testing.T, f func(t *testing.T, k kind, n int)) {
	t.Helper()
	for _, k := range bothKinds(t) {
		for _, n := range sizes {
			t.Run(fmt.Sprint(k.name, n), func(t *testing.T) { f(t, k, n) })
		}
	}
}

// texts is so many unlike texts, the first of them empty.
func texts(n int) []string {
	all := make([]string, n)
	for i := 1; i < n; i++ {
		all[i] = strings.Repeat("x", i%3) + fmt.Sprint(i)
	}
	return all
}

// inSix is a number in six bytes.
func inSix(n int) string { return string(binary.LittleEndian.AppendUint64(nil, uint64(n))[:6]) }

// rowsOf is the rows over some leaves, as the chapter's words say them.
func rowsOf(hash func(string) string, leaves []string) [][]string {
	var row []string
	for _, s := range leaves {
		row = append(row, hash("\x00"+s))
	}
	rows := [][]string{row}
	for len(row) > 1 {
		var up []string
		for four := range slices.Chunk(row, 4) {
			up = append(up, hash("\x01"+strings.Join(four, "")))
		}
		rows, row = append(rows, up), up
	}
	return rows
}

// rootOf is the root over some leaves.
func rootOf(hash func(string) string, leaves []string) string {
	rows := rowsOf(hash, leaves)
	top := strings.Join(rows[len(rows)-1], "")
	return hash("\x02" + inSix(len(leaves)) + top)
}

// pathOf is the path from a leaf: of each row but the last the others of its four, in order.
func pathOf(hash func(string) string, leaves []string, i int) []api.Step {
	var path []api.Step
	rows := rowsOf(hash, leaves)
	for _, row := range rows[:len(rows)-1] {
		var s api.Step
		for j, h := range row {
			switch {
			case j == i:
				s.At = j % 4
			case j/4 == i/4:
				s.Sides = append(s.Sides, h)
			}
		}
		path = append(path, s)
		i /= 4
	}
	return path
}

func samePath(a, b []api.Step) bool {
	return slices.EqualFunc(a, b, func(x, y api.Step) bool { return x.At == y.At && slices.Equal(x.Sides, y.Sides) })
}

// copied is a path in memory of its own.
func copied(path []api.Step) []api.Step {
	all := slices.Clone(path)
	for k := range all {
		all[k].Sides = slices.Clone(all[k].Sides)
	}
	return all
}

// mustPath is a path that is there.
func mustPath(t *testing.T, x *tree.Tree, i int) []api.Step {
	t.Helper()
	path, e := x.Path(i)
	if e != api.OK {
		t.Fatalf("Path(%d) of %d: error %d", i, x.Count(), e)
	}
	return path
}

// wantTree holds all that a tree tells against the words: the count, the root, and each path.
func wantTree(t *testing.T, what string, x *tree.Tree, hash func(string) string, leaves []string) {
	t.Helper()
	if n := x.Count(); n != len(leaves) {
		t.Fatalf("%s: Count %d; want %d", what, n, len(leaves))
	}
	if got, want := x.Root(), rootOf(hash, leaves); got != want {
		t.Fatalf("%s: Root of %d %x; want %x", what, len(leaves), got, want)
	}
	for i := range leaves {
		if got, want := mustPath(t, x, i), pathOf(hash, leaves, i); !samePath(got, want) {
			t.Fatalf("%s: Path(%d) of %d: %x; want %x", what, i, len(leaves), got, want)
		}
	}
}
