package chart_test

import (
	"math"
	"slices"
	"testing"

	"grapnel/api"
	"grapnel/chart"
)

// edges is the first and the last index of each level, and those at bounds of tables.
var edges = []int{0, 11, 12, 123, 124, 235, 236, 12667}

// noIndices is numbers that are none.
var noIndices = []int{-1, -2, -12, -112, 12668, 12669, 12780, 1 << 31, 1 << 32, -1 << 32, 1<<32 + 5, math.MinInt, math.MinInt + 1, math.MaxInt - 1, math.MaxInt}

// place is where an index is told.
type place struct{ level, a, b int }

// places is where all indices are told, one behind the other: in the inode, in the table, in each table of the tables.
func places() []place {
	var all []place
	for a := range 12 {
		all = append(all, place{0, a, 0})
	}
	for a := range 112 {
		all = append(all, place{1, a, 0})
	}
	for a := range 112 {
		for b := range 112 {
			all = append(all, place{2, a, b})
		}
	}
	return all
}

// owned is a block of a file: "index" and which, "table", "tables", or "of tables" and which.
type owned struct {
	what  string
	which int
}

// model counts a file's blocks by naming each.
type model struct{ places []place }

// blocks is how many blocks a file has that has these indices, said once or more often, in any order.
func (m model) blocks(l ...int) int {
	all := map[owned]int{}
	for _, index := range l {
		all[owned{"index", index}]++
		switch p := m.places[index]; p.level {
		case 1:
			all[owned{"table", 0}]++
		case 2:
			all[owned{"tables", 0}]++
			all[owned{"of tables", p.a}]++
		}
	}
	return len(all)
}

// subsets is all lists of some of l, in l's order.
func subsets(l []int) [][]int {
	out := [][]int{nil}
	for _, x := range l {
		for _, s := range out {
			out = append(out, append(slices.Clone(s), x))
		}
	}
	return out
}

// stride is every so manieth index from one on, below another.
func stride(from, to, by int) []int {
	var l []int
	for i := from; i < to; i += by {
		l = append(l, i)
	}
	return l
}

// lists is rising lists over all three levels.
func lists() [][]int {
	out := subsets(edges)
	for _, by := range []int{1, 2, 3, 11, 12, 13, 110, 111, 112, 113, 114, 1000, 6000, 12667} {
		for _, from := range []int{0, 1, 11, 12, 13, 123, 124, 125, 236, 12666} {
			out = append(out, stride(from, 12668, by))
		}
	}
	return append(out, stride(0, 12, 1), stride(0, 13, 1), stride(12, 124, 1), stride(12, 125, 1), stride(124, 236, 1), stride(124, 237, 1), stride(0, 124, 1), stride(0, 125, 1), stride(12556, 12668, 1), stride(12555, 12668, 1))
}

// wrongLists is lists that are not rising indices.
func wrongLists() [][]int {
	out := [][]int{{1, 0}, {12, 11}, {124, 123}, {12667, 0}, {0, 2, 1}, {1, 0, 2}, {0, 124, 12}, {2, 1, 0}, {0, 0, 1}, {0, 1, 1}, append(stride(0, 12668, 1), 12668), append(stride(0, 12668, 1), 12667)}
	for _, i := range edges {
		out = append(out, []int{i, i}, []int{i, i, i})
		for _, bad := range noIndices {
			out = append(out, []int{i, bad}, []int{bad, i})
		}
	}
	for _, bad := range noIndices {
		out = append(out, []int{bad}, []int{0, bad, 12667}, []int{bad, bad})
	}
	return out
}

func mustBlocks(t *testing.T, l []int) int {
	t.Helper()
	n, e := chart.Blocks(l)
	if e != api.OK {
		t.Fatalf("Blocks(%v): error %d", l, e)
	}
	return n
}

func mustMore(t *testing.T, have, want []int) int {
	t.Helper()
	n, e := chart.More(have, want)
	if e != api.OK {
		t.Fatalf("More(%v, %v): error %d", have, want, e)
	}
	return n
}

func mustTouched(t *testing.T, at, n int) []int {
	t.Helper()
	l, e := chart.Touched(at, n)
	if e != api.OK {
		t.Fatalf("Touched(%d, %d): error %d", at, n, e)
	}
	return l
}

func mustTable(t *testing.T, body string) []int {
	t.Helper()
	l, e := chart.Table(body)
	if e != api.OK {
		t.Fatalf("Table(%x): error %d", body, e)
	}
	return l
}

func mustBody(t *testing.T, l []int) string {
	t.Helper()
	body, e := chart.Body(l)
	if e != api.OK {
		t.Fatalf("Body(%v): error %d", l, e)
	}
	return body
}

// fenced is a list in a memory that goes on behind its end, and a check that all of it is still as it was.
func fenced(t *testing.T, l []int) ([]int, func()) {
	t.Helper()
	memory := append(slices.Clone(l), -7, -8, -9, -10)
	was := slices.Clone(memory)
	return memory[:len(l)], func() {
		t.Helper()
		if !slices.Equal(memory, was) {
			t.Errorf("a list that was handed in, and what lies behind it: %v; was %v", memory, was)
		}
	}
}
