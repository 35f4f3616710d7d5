package grid_test

import (
	"math"
	"math/rand"
	"slices"
	"testing"

	"grapnel/api"
	"grapnel/grid"
)

// froms is each place of a grid of n, and places below, at and beyond its end.
func froms(n int) []int { return append(places(n), outside(n)...) }

// 8.3: the least that is not used, and not below from.
func TestNext(t *testing.T) {
	forAll(t, func(t *testing.T, m model) {
		g, free := m.grid(t), m.free(0)
		for _, from := range froms(len(m)) {
			want, ok := 0, false
			if at, _ := slices.BinarySearch(free, from); at < len(free) {
				want, ok = free[at], true
			}
			if got, found := g.Next(from); got != want || found != ok {
				t.Fatalf("Next(%d): %d, %v; want %d, %v", from, got, found, want, ok)
			}
		}
		wantGrid(t, "behind Next", g, m)
	})
}

// 8.3: from each place, and the only one that is not used at each place.
func TestNextEachHole(t *testing.T) {
	full := filled(200, func(int) bool { return true }).grid(t)
	for hole := range 200 {
		mustPut(t, full, hole, false)
		for from := -9; from < 210; from++ {
			want, ok := hole, from <= hole
			if !ok {
				want = 0
			}
			if got, found := full.Next(from); got != want || found != ok {
				t.Fatalf("Next(%d), %d is not used: %d, %v", from, hole, got, found)
			}
		}
		mustPut(t, full, hole, true)
	}
}

// counts is how many to ask for, if so many are left: below 0, none, some, all, and more.
func counts(left int) []int {
	return []int{math.MinInt, -1, 0, 1, left / 2, left - 1, left, left + 1, left + 2, left + 8, 3585, 1 << 32, math.MaxInt}
}

// 8.3, R2: so many from each place, taken of a copy each; a refusal changes nothing.
func TestTake(t *testing.T) {
	forAll(t, func(t *testing.T, m model) {
		g, free := m.grid(t), m.free(0)
		for _, from := range spread(froms(len(m))) {
			at, _ := slices.BinarySearch(free, from)
			for _, k := range counts(len(free) - at) {
				wantTake(t, g.Copy(), free[at:], k, from)
			}
		}
	})
}

// spread is all of a short list; of a long one its ends, and some between at each place of a byte.
func spread(list []int) []int {
	if len(list) < 200 {
		return list
	}
	var out []int
	for at, x := range list {
		if at < 20 || at > len(list)-40 || at%61 < 2 {
			out = append(out, x)
		}
	}
	return out
}

// wantTake asks for the answer of Take of a grid of which these are free from there on, and for what it leaves.
func wantTake(t *testing.T, g *grid.Grid, free []int, k, from int) {
	t.Helper()
	var list []int
	want := api.OK
	switch {
	case k < 0:
		want = api.ErrArg
	case k > len(free):
		want = api.ErrFull
	default:
		list = free[:k]
	}
	n, left := g.Size(), []byte(g.Body())
	for _, i := range list {
		left[i/8] |= 1 << (i % 8)
	}
	got, e := g.Take(k, from)
	if !slices.Equal(got, list) || e != want {
		t.Fatalf("Take(%d, %d) of %d: %v, error %d; want %v, error %d", k, from, n, got, e, list, want)
	}
	if g.Body() != string(left) || g.Size() != n {
		t.Fatalf("Take(%d, %d) of %d, error %d: Body %x; want %x", k, from, n, e, g.Body(), left)
	}
}

// 8.3: from each place of great grids.
func TestTakeEachPlace(t *testing.T) {
	for _, n := range []int{3583, 3584} {
		all := patterns(n)
		for _, name := range []string{"none", "all", "the even", "the odd", "but 0", "but 63", "but ends"} {
			g, free := all[name].grid(t), all[name].free(0)
			for _, from := range froms(n) {
				at, _ := slices.BinarySearch(free, from)
				left := len(free) - at
				for _, k := range []int{-1, 0, 1, left / 2, left, left + 1} {
					wantTake(t, g.Copy(), free[at:], k, from)
				}
			}
		}
	}
}

// 8.3: what is taken is used, one taking behind the other, till all are.
func TestTakeRow(t *testing.T) {
	for _, n := range sizes {
		chance := rand.New(rand.NewSource(int64(n)))
		g, m := mustNew(t, n), make(model, n)
		for range 60 {
			k, from := chance.Intn(n/8+3)-1, chance.Intn(n+5)-2
			free := m.free(from)
			wantTake(t, g, free, k, from)
			if k >= 0 && k <= len(free) {
				m = m.with(free[:k])
			}
			wantGrid(t, "Take", g, m)
			if n > 0 {
				i, used := chance.Intn(n), chance.Intn(3) > 0
				mustPut(t, g, i, used)
				m[i] = used
			}
		}
		wantTake(t, g, m.free(0), len(m.free(0)), 0)
		wantGrid(t, "all taken", g, filled(n, func(int) bool { return true }))
		wantTake(t, g, nil, 1, 0)
	}
}

// R3: a list that was handed out is the asker's own: to change it changes no grid and no other list, nor does a grid change it.
func TestTakeOwnList(t *testing.T) {
	g := mustNew(t, 65)
	first, e := g.Take(5, 0)
	if e != api.OK || cap(first) < 5 {
		t.Fatalf("Take: %v, error %d", first, e)
	}
	whole := first[:cap(first)]
	for i := range whole {
		whole[i] = 60
	}
	second, e := g.Take(5, 0)
	if want := []int{5, 6, 7, 8, 9}; e != api.OK || !slices.Equal(second, want) {
		t.Fatalf("Take behind a list that was changed: %v, error %d", second, e)
	}
	wantGrid(t, "lists changed", g, make(model, 65).with(places(10)))
	for i := range 65 {
		mustPut(t, g, i, false)
	}
	if again, e := g.Take(5, 0); e != api.OK || !slices.Equal(again, places(5)) {
		t.Fatalf("Take again: %v, error %d", again, e)
	}
	if !slices.Equal(second, []int{5, 6, 7, 8, 9}) || !slices.Equal(first, []int{60, 60, 60, 60, 60}) {
		t.Errorf("lists that were handed out: %v, %v", first, second)
	}
}

// R4: Next, Has, Count, Body, Size and Copy change nothing, and the same calls have the same answers.
func TestSameAnswers(t *testing.T) {
	m := filled(65, func(i int) bool { return i%5 == 1 })
	g, h := m.grid(t), m.grid(t)
	for from := -2; from < 70; from++ {
		for range 2 {
			g.Next(from)
			g.Has(from)
			g.Copy().Take(1, from)
		}
		wantGrid(t, "asked", g, m)
	}
	for from := range 65 {
		a, e := g.Take(from%3, from)
		b, f := h.Take(from%3, from)
		if !slices.Equal(a, b) || e != f || g.Body() != h.Body() {
			t.Fatalf("Take(%d, %d): %v, %d and %v, %d", from%3, from, a, e, b, f)
		}
	}
}
