package tree

import (
	"strings"

	"grapnel/pack"
	"grapnel/vault"
)

const (
	fan        = 4 // hashes below a node
	countBytes = 6 // of the number of leaves in a root
)

// What stands ahead of all that is hashed, so that no leaf passes for a node, nor either of them for a root.
const (
	leafMark = "\x00"
	nodeMark = "\x01"
	rootMark = "\x02"
)

func leafHash(v *vault.Vault, s string) string { return v.Hash(leafMark + s) }

func nodeHash(v *vault.Vault, below []string) string {
	return v.Hash(nodeMark + strings.Join(below, ""))
}

// rootHash is the root over a top. A count of leaves is known to have room in its bytes.
func rootHash(v *vault.Vault, n int, top string) string {
	count, _ := pack.Put(n, countBytes)
	return v.Hash(rootMark + count + top)
}

// above is how many nodes stand above a row of so many.
func above(size int) int { return (size + fan - 1) / fan }

// height is how many rows stand above that of so many leaves.
func height(n int) int {
	rows := 0
	for n > 1 {
		n = above(n)
		rows++
	}
	return rows
}

// four is the bounds of the four to which a place of a row of so many belongs. The last four may have fewer.
func four(size, i int) (from, to int) {
	from = i - i%fan
	return from, min(from+fan, size)
}
