package chart_test

import (
	"math"
	"testing"

	"grapnel/api"
	"grapnel/chart"
)

func mustLayout(t *testing.T, live int) api.Layout {
	t.Helper()
	l, e := chart.Layout(live)
	if e != api.OK {
		t.Fatalf("Layout(%d): error %d", live, e)
	}
	return l
}

// shares is the least number of shares into which n goes.
func shares(n, share int) int {
	k := 0
	for k*share < n {
		k++
	}
	return k
}

// layoutOf is the layout as the chapter's words say it: its parts are laid one behind the other.
func layoutOf(live int) api.Layout {
	l := api.Layout{Live: live, ListBlocks: shares(live, 64)}
	for (l.Inodes+1)*8 <= live {
		l.Inodes++
	}
	l.LostBlocks = shares(l.Inodes, 16)
	at := 2
	lay := func(place *int, blocks int) {
		*place = at
		at += blocks
	}
	lay(&l.Commit, 1)
	lay(&l.Log, 24)
	lay(&l.Blocks, 1)
	lay(&l.Nodes, 1)
	lay(&l.Table, l.Inodes)
	lay(&l.Lost, l.LostBlocks)
	lay(&l.Root, 1)
	lay(&l.Data, live-at)
	lay(&l.Plan, 1)
	lay(&l.List, l.ListBlocks)
	lay(&l.Old, live)
	lay(&l.Total, 0)
	return l
}

// 9.1: each field of every layout.
func TestLayout(t *testing.T) {
	for live := 48; live <= 1024; live++ {
		if got, want := mustLayout(t, live), layoutOf(live); got != want {
			t.Errorf("Layout(%d): %+v; want %+v", live, got, want)
		}
	}
}

// 9.1: layouts that are spelt out, where a share's whole number of blocks begins or ends. What stands ahead of the inodes is the same in all.
func TestLayoutSpelt(t *testing.T) {
	for _, c := range []struct{ live, inodes, lost, lostBlocks, root, data, list, listBlocks, old, total int }{
		{48, 6, 35, 1, 36, 37, 49, 1, 50, 98},
		{55, 6, 35, 1, 36, 37, 56, 1, 57, 112},
		{56, 7, 36, 1, 37, 38, 57, 1, 58, 114},
		{64, 8, 37, 1, 38, 39, 65, 1, 66, 130},
		{65, 8, 37, 1, 38, 39, 66, 2, 68, 133},
		{128, 16, 45, 1, 46, 47, 129, 2, 131, 259},
		{135, 16, 45, 1, 46, 47, 136, 3, 139, 274},
		{136, 17, 46, 2, 48, 49, 137, 3, 140, 276},
		{1023, 127, 156, 8, 164, 165, 1024, 16, 1040, 2063},
		{1024, 128, 157, 8, 165, 166, 1025, 16, 1041, 2065},
	} {
		want := api.Layout{
			Live: c.live, Commit: 2, Log: 3, Blocks: 27, Nodes: 28, Table: 29, Inodes: c.inodes, Lost: c.lost, LostBlocks: c.lostBlocks, Root: c.root, Data: c.data,
			Plan: c.live, List: c.list, ListBlocks: c.listBlocks, Old: c.old, Total: c.total,
		}
		if got := mustLayout(t, c.live); got != want {
			t.Errorf("Layout(%d): %+v; want %+v", c.live, got, want)
		}
	}
}

// 9.1: what stands at each address is one thing alone, and no address below Total is left out.
func TestLayoutParts(t *testing.T) {
	for live := 48; live <= 1024; live++ {
		l := mustLayout(t, live)
		told := make([]int, l.Total)
		for _, part := range [][2]int{
			{0, 2}, {l.Commit, 1}, {l.Log, 24}, {l.Blocks, 1}, {l.Nodes, 1}, {l.Table, l.Inodes}, {l.Lost, l.LostBlocks}, {l.Root, 1}, {l.Data, live - l.Data},
			{l.Plan, 1}, {l.List, l.ListBlocks}, {l.Old, live},
		} {
			if part[1] < 1 {
				t.Errorf("Layout(%d): the part at %d has %d blocks", live, part[0], part[1])
			}
			for i := range part[1] {
				told[part[0]+i]++
			}
		}
		for at, n := range told {
			if n != 1 {
				t.Fatalf("Layout(%d): %d things stand at %d: %+v", live, n, at, l)
			}
		}
	}
}

// 9.1, R1, R2: sizes that may not be.
func TestLayoutWrong(t *testing.T) {
	for _, live := range []int{47, 1025, 0, -1, 1, 46, 1026, -48, -1024, 1 << 32, 1<<32 + 48, -1 << 32, math.MinInt, math.MinInt + 1, math.MaxInt - 1, math.MaxInt} {
		if l, e := chart.Layout(live); l != (api.Layout{}) || e != api.ErrArg {
			t.Errorf("Layout(%d): %+v, error %d", live, l, e)
		}
	}
}

// The chapter's first example, and the sixth of the whole's ten.
func TestLayoutExample(t *testing.T) {
	l := mustLayout(t, 48)
	if l.Inodes != 6 || l.Lost != 35 || l.LostBlocks != 1 || l.Root != 36 || l.Data != 37 || l.Plan != 48 || l.List != 49 || l.Old != 50 || l.Total != 98 {
		t.Errorf("Layout(48): %+v", l)
	}
}
