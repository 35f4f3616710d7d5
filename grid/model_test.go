package grid_test

import (
	"fmt"
	"math"
	"slices"
	"testing"

	"grapnel/api"
	"grapnel/grid"
)

// sizes is what a grid may tell of: around each whole byte and word, and the greatest body.
var sizes = []int{0, 1, 7, 8, 9, 63, 64, 65, 3583, 3584}

// wrongSizes is what none may.
var wrongSizes = []int{-1, -8, 3585, 3592, 1 << 32, -1 << 32, 1<<32 + 8, math.MinInt, math.MinInt + 1, math.MaxInt - 1, math.MaxInt}

// model is a grid as the chapter's words say it: of each whether it is used.
type model []bool

// body is the model's 448 bytes.
func (m model) body() string {
	b := make([]byte, 448)
	for i, used := range m {
		if used {
			b[i/8] += []byte{1, 2, 4, 8, 16, 32, 64, 128}[i%8]
		}
	}
	return string(b)
}

// free is those that are not used, and not below a place.
func (m model) free(from int) []int {
	var free []int
	for i, used := range m {
		if i >= from && !used {
			free = append(free, i)
		}
	}
	return free
}

// with is the model of which these are used besides.
func (m model) with(places []int) model {
	out := slices.Clone(m)
	for _, i := range places {
		out[i] = true
	}
	return out
}

// grid is the grid that tells what the model does, made by Put alone.
func (m model) grid(t *testing.T) *grid.Grid {
	t.Helper()
	g := mustNew(t, len(m))
	for i, used := range m {
		if used {
			mustPut(t, g, i, true)
		}
	}
	return g
}

// filled is a model of n of which those are used that a rule says.
func filled(n int, rule func(i int) bool) model {
	m := make(model, n)
	for i := range m {
		m[i] = rule(i)
	}
	return m
}

// patterns is models of n, by names: none, all, all but one, but two, every other one, and some.
func patterns(n int) map[string]model {
	out := map[string]model{
		"none":       filled(n, func(int) bool { return false }),
		"all":        filled(n, func(int) bool { return true }),
		"the even":   filled(n, func(i int) bool { return i%2 == 0 }),
		"the odd":    filled(n, func(i int) bool { return i%2 == 1 }),
		"some":       filled(n, func(i int) bool { return i*i%7 < 3 }),
		"half":       filled(n, func(i int) bool { return i < n/2 }),
		"other half": filled(n, func(i int) bool { return i >= n/2 }),
		"but ends":   filled(n, func(i int) bool { return i != 0 && i != n-1 }),
	}
	for _, one := range singles(n) {
		out[fmt.Sprint("but ", one)] = filled(n, func(i int) bool { return i != one })
		out[fmt.Sprint("only ", one)] = filled(n, func(i int) bool { return i == one })
	}
	return out
}

// singles is places of a grid of n: each of a small one, those at bytes' and words' bounds of a great one.
func singles(n int) []int {
	if n <= 9 {
		return places(n)
	}
	var out []int
	for _, i := range []int{0, 1, 7, 8, 9, 31, 32, 62, 63, 64, n / 2, n - 9, n - 8, n - 2, n - 1} {
		if i < n && !slices.Contains(out, i) {
			out = append(out, i)
		}
	}
	return out
}

// places is all of a grid of n.
func places(n int) []int {
	out := make([]int, n)
	for i := range n {
		out[i] = i
	}
	return out
}

// outside is places that no grid of n has; the body's bits may be longer.
func outside(n int) []int {
	return []int{-1, -2, -7, -8, -9, -64, -n - 1, n, n + 1, n + 7, n + 8, 3584, 3585, 4096, 1 << 31, 1 << 32, -1 << 32, math.MinInt, math.MinInt + 1, math.MaxInt - 1, math.MaxInt}
}

// forAll is a test of each pattern of each size.
func forAll(t *testing.T, f func(t *testing.T, m model)) {
	for _, n := range sizes {
		for name, m := range patterns(n) {
			t.Run(fmt.Sprint(n, " ", name), func(t *testing.T) { f(t, m) })
		}
	}
}

func mustNew(t *testing.T, n int) *grid.Grid {
	t.Helper()
	g, e := grid.New(n)
	if g == nil || e != api.OK {
		t.Fatalf("New(%d): grid %v, error %d", n, g != nil, e)
	}
	return g
}

func mustOf(t *testing.T, body string, n int) *grid.Grid {
	t.Helper()
	g, e := grid.Of(body, n)
	if g == nil || e != api.OK {
		t.Fatalf("Of(%d bytes, %d): grid %v, error %d", len(body), n, g != nil, e)
	}
	return g
}

func mustPut(t *testing.T, g *grid.Grid, i int, used bool) {
	t.Helper()
	if e := g.Put(i, used); e != api.OK {
		t.Fatalf("Put(%d, %v) of %d: error %d", i, used, g.Size(), e)
	}
}

// wantGrid asks for a grid that tells what the model does, at each of its places and outside of them.
func wantGrid(t *testing.T, what string, g *grid.Grid, m model) {
	t.Helper()
	if got := g.Size(); got != len(m) {
		t.Fatalf("%s: Size %d; want %d", what, got, len(m))
	}
	if got, want := g.Body(), m.body(); got != want {
		t.Fatalf("%s of %d: Body %x; want %x", what, len(m), got, want)
	}
	if got, want := g.Count(), len(m)-len(m.free(0)); got != want {
		t.Fatalf("%s of %d: Count %d; want %d", what, len(m), got, want)
	}
	for i, used := range m {
		if g.Has(i) != used {
			t.Fatalf("%s of %d: Has(%d) %v", what, len(m), i, !used)
		}
	}
	for _, i := range outside(len(m)) {
		if g.Has(i) {
			t.Fatalf("%s of %d: Has(%d)", what, len(m), i)
		}
	}
}
