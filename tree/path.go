package tree

import (
	"slices"

	"grapnel/api"
	"grapnel/vault"
)

// Path leads from a leaf to the root.
func (t *Tree) Path(i int) ([]api.Step, api.Errno) {
	if !t.has(i) {
		return nil, api.ErrRange
	}
	path := make([]api.Step, len(t.rows)-1)
	for k := range len(path) {
		path[k] = step(t.rows[k], i)
		i /= fan
	}
	return path, api.OK
}

// Check tells whether a path leads from a text at a place of n to a root.
func Check(v *vault.Vault, top string, n, i int, s string, path []api.Step) bool {
	// The empty top is what a vault hashes that nobody gave: it would take everything.
	if top == "" || n > api.MaxSectors || i < 0 || i >= n || !leads(n, i, path) {
		return false
	}
	hash := leafHash(v, s)
	for k := range len(path) {
		hash = nodeHash(v, below(path[k], hash))
	}
	return rootHash(v, n, hash) == top
}

// step is the place of a hash among its four, and the others, in a list of its own.
func step(row []string, i int) api.Step {
	from, to := four(len(row), i)
	at := i - from
	sides := make([]string, to-from-1)
	copy(sides[:at], row[from:i])
	copy(sides[at:], row[i+1:to])
	return api.Step{At: at, Sides: sides}
}

// below is the hashes of a node: the others of a step that fits, and the one at its place.
func below(s api.Step, hash string) []string {
	all := make([]string, 0, fan)
	all = append(all, s.Sides[:s.At]...)
	all = append(all, hash)
	return append(all, s.Sides[s.At:]...)
}

// leads tells whether a path has the steps of one from the leaf i of n, whatever they hash to.
func leads(n, i int, path []api.Step) bool {
	if len(path) != height(n) {
		return false
	}
	for k := range len(path) {
		if !fits(path[k], n, i) {
			return false
		}
		n, i = above(n), i/fan
	}
	return true
}

// fits tells whether a step is one from a place of a row of so many. Sides of other lengths are none: a node's bytes could be cut otherwise, and still have its hash.
func fits(s api.Step, size, i int) bool {
	from, to := four(size, i)
	if s.At != i-from || len(s.Sides) != to-from-1 {
		return false
	}
	return !slices.ContainsFunc(s.Sides, func(side string) bool { return len(side) != api.HashBytes })
}
