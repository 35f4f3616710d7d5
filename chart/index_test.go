package chart_test

import (
	"slices"
	"testing"

	"grapnel/api"
	"grapnel/chart"
)

// 9.2: every index.
func TestPlace(t *testing.T) {
	all := places()
	if len(all) != 12668 {
		t.Fatalf("the model has %d indices", len(all))
	}
	for index, want := range all {
		level, a, b, e := chart.Place(index)
		if got := (place{level, a, b}); got != want || e != api.OK {
			t.Errorf("Place(%d): %v, error %d; want %v", index, got, e, want)
		}
	}
}

// 9.2: each level's first and last index, spelt out; the chapter's second example.
func TestPlaceSpelt(t *testing.T) {
	for _, c := range []struct {
		index int
		want  place
	}{
		{0, place{0, 0, 0}}, {11, place{0, 11, 0}},
		{12, place{1, 0, 0}}, {123, place{1, 111, 0}},
		{124, place{2, 0, 0}}, {235, place{2, 0, 111}}, {236, place{2, 1, 0}}, {12667, place{2, 111, 111}},
	} {
		level, a, b, e := chart.Place(c.index)
		if got := (place{level, a, b}); got != c.want || e != api.OK {
			t.Errorf("Place(%d): %v, error %d; want %v", c.index, got, e, c.want)
		}
	}
}

// 9.2, R1, R2: numbers that are no index.
func TestPlaceWrong(t *testing.T) {
	for _, index := range noIndices {
		if level, a, b, e := chart.Place(index); level != 0 || a != 0 || b != 0 || e != api.ErrRange {
			t.Errorf("Place(%d): %d, %d, %d, error %d", index, level, a, b, e)
		}
	}
}

// 9.3: of no index, nil or empty.
func TestBlocksNone(t *testing.T) {
	for _, l := range [][]int{nil, {}} {
		if n := mustBlocks(t, l); n != 0 {
			t.Errorf("Blocks(%v): %d", l, n)
		}
	}
}

// 9.3: of every single index: with it come its table, or the tables and one of these.
func TestBlocksOne(t *testing.T) {
	for index := range 12668 {
		want := 3
		if index < 12 {
			want = 1
		} else if index < 124 {
			want = 2
		}
		if n := mustBlocks(t, []int{index}); n != want {
			t.Errorf("Blocks of %d: %d; want %d", index, n, want)
		}
	}
}

// 9.3: of lists over all three levels.
func TestBlocks(t *testing.T) {
	m := model{places()}
	for _, l := range lists() {
		if n, want := mustBlocks(t, l), m.blocks(l...); n != want {
			t.Errorf("Blocks(%v): %d; want %d", l, n, want)
		}
	}
}

// 9.3: of the first so many indices, each number of them.
func TestBlocksFirst(t *testing.T) {
	want := 0
	all := stride(0, 12668, 1)
	for index, p := range places() {
		want++
		switch {
		case p == place{1, 0, 0}:
			want++
		case p == place{2, 0, 0}:
			want += 2
		case p.level == 2 && p.b == 0:
			want++
		}
		if n := mustBlocks(t, all[:index+1]); n != want {
			t.Fatalf("Blocks of 0 to %d: %d; want %d", index, n, want)
		}
	}
	if want != 12668+1+1+112 {
		t.Errorf("the model has %d blocks in all", want)
	}
}

// 9.3, spelt out; the chapter's third example.
func TestBlocksSpelt(t *testing.T) {
	for _, c := range []struct {
		want int
		l    []int
	}{
		{6, []int{0, 12, 124}},
		{2, []int{0, 11}},
		{3, []int{11, 12}},
		{3, []int{12, 123}},
		{5, []int{123, 124}},
		{4, []int{124, 235}},
		{5, []int{235, 236}},
		{5, []int{124, 12667}},
		{12, stride(0, 12, 1)},
		{14, stride(0, 13, 1)},
		{125, stride(0, 124, 1)},
		{128, stride(0, 125, 1)},
		{12782, stride(0, 12668, 1)},
	} {
		if n := mustBlocks(t, c.l); n != c.want {
			t.Errorf("Blocks(%v): %d; want %d", c.l, n, c.want)
		}
	}
}

// 9.3, R1, R2: lists that do not rise, that say one twice, or that have one that is none.
func TestBlocksWrong(t *testing.T) {
	for _, l := range wrongLists() {
		if n, e := chart.Blocks(l); n != 0 || e != api.ErrArg {
			t.Errorf("Blocks(%v): %d, error %d", l, n, e)
		}
	}
}

// wantMore holds More against the model.
func wantMore(t *testing.T, m model, have, want []int) {
	t.Helper()
	more := m.blocks(slices.Concat(have, want)...) - m.blocks(have...)
	if n := mustMore(t, have, want); n != more {
		t.Fatalf("More(%v, %v): %d; want %d", have, want, n, more)
	}
}

// 9.3: all pairs of lists of edges: empty, one, sharing some, apart.
func TestMore(t *testing.T) {
	m := model{places()}
	some := subsets(edges)
	for _, have := range some {
		for _, want := range some {
			wantMore(t, m, have, want)
		}
	}
}

// 9.3: long lists that lie within each other, that are apart, and that are told by the same tables.
func TestMoreLong(t *testing.T) {
	m := model{places()}
	long := [][]int{
		nil, stride(0, 12668, 1), stride(0, 12668, 2), stride(1, 12668, 2), stride(0, 12668, 112), stride(12, 12668, 112), stride(11, 12668, 112), stride(0, 6000, 1), stride(6000, 12668, 1), stride(5000, 7000, 3), stride(0, 12, 1), stride(12, 124, 1), stride(124, 12668, 1),
	}
	for _, have := range long {
		for _, want := range long {
			wantMore(t, m, have, want)
		}
	}
}

// 9.3: one of both is empty, or both are one.
func TestMoreEmpty(t *testing.T) {
	for _, l := range lists() {
		for _, empty := range [][]int{nil, {}} {
			if n := mustMore(t, l, empty); n != 0 {
				t.Errorf("More(%v, none): %d", l, n)
			}
			if n, want := mustMore(t, empty, l), mustBlocks(t, l); n != want {
				t.Errorf("More(none, %v): %d; want %d", l, n, want)
			}
		}
		if n := mustMore(t, l, l); n != 0 {
			t.Errorf("More(%v, the same): %d", l, n)
		}
	}
}

// 9.3, spelt out.
func TestMoreSpelt(t *testing.T) {
	for _, c := range []struct {
		have, want []int
		n          int
	}{
		{[]int{0, 12}, []int{12, 13}, 1},
		{[]int{0}, []int{12}, 2},
		{[]int{0, 12}, []int{124}, 3},
		{[]int{124}, []int{125}, 1},
		{[]int{124}, []int{236}, 2},
		{[]int{236}, []int{124}, 2},
		{[]int{124, 348}, []int{125, 236, 349}, 4},
		{[]int{124}, []int{12}, 2},
		{[]int{5}, []int{1, 5, 9}, 2},
	} {
		if n := mustMore(t, c.have, c.want); n != c.n {
			t.Errorf("More(%v, %v): %d; want %d", c.have, c.want, n, c.n)
		}
	}
}

// 9.3, R1, R2: one of both may not be, or neither may.
func TestMoreWrong(t *testing.T) {
	check := func(have, want []int) {
		if n, e := chart.More(have, want); n != 0 || e != api.ErrArg {
			t.Errorf("More(%v, %v): %d, error %d", have, want, n, e)
		}
	}
	for _, bad := range wrongLists() {
		for _, good := range [][]int{nil, {0}, {0, 12, 124}, {12667}} {
			check(bad, good)
			check(good, bad)
		}
		check(bad, bad)
		check(bad, []int{3, 2})
	}
}

// R3: lists that are handed in stay as they are, and so does what lies behind them.
func TestListsStay(t *testing.T) {
	for _, l := range [][]int{nil, {0}, {0, 12, 124}, {11, 12, 13, 500, 12667}, {2, 1}, {3, 3}, {-1}, {12668}, {0, 5, 4}} {
		one, oneStays := fenced(t, l)
		chart.Blocks(one)
		for _, other := range [][]int{nil, {1, 2, 3}, {0, 12, 200}, {9, 8}} {
			two, twoStays := fenced(t, other)
			chart.More(one, two)
			chart.More(two, one)
			twoStays()
		}
		oneStays()
	}
}
