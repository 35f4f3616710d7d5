package chart_test

import (
	"math"
	"slices"
	"testing"

	"grapnel/api"
	"grapnel/chart"
)

const maxSize = 5675264

// 9.4: every size: an index more for each 448 bytes that are begun.
func TestSpan(t *testing.T) {
	want := 0
	for size := 0; size <= maxSize; size++ {
		if size%448 == 1 {
			want++
		}
		if n, e := chart.Span(size); n != want || e != api.OK {
			t.Fatalf("Span(%d): %d, error %d; want %d", size, n, e, want)
		}
	}
	if want != 12668 {
		t.Errorf("the model has %d indices in all", want)
	}
}

// 9.4, R1, R2: at the edges, and sizes that may not be.
func TestSpanSpelt(t *testing.T) {
	for _, c := range []struct {
		size, want int
		e          api.Errno
	}{
		{0, 0, api.OK}, {1, 1, api.OK}, {447, 1, api.OK}, {448, 1, api.OK}, {449, 2, api.OK},
		{5674816, 12667, api.OK}, {5674817, 12668, api.OK}, {5675263, 12668, api.OK}, {5675264, 12668, api.OK},
		{5675265, 0, api.ErrRange}, {-1, 0, api.ErrRange}, {-448, 0, api.ErrRange}, {1 << 32, 0, api.ErrRange}, {-1 << 32, 0, api.ErrRange},
		{math.MinInt, 0, api.ErrRange}, {math.MinInt + 1, 0, api.ErrRange}, {math.MaxInt - 1, 0, api.ErrRange}, {math.MaxInt, 0, api.ErrRange},
	} {
		if n, e := chart.Span(c.size); n != c.want || e != c.e {
			t.Errorf("Span(%d): %d, error %d; want %d, error %d", c.size, n, e, c.want, c.e)
		}
	}
}

// touched goes through the bytes one by one.
func touched(at, n int) []int {
	var l []int
	for i := at; i < at+n; i++ {
		if len(l) == 0 || l[len(l)-1] != i/448 {
			l = append(l, i/448)
		}
	}
	return l
}

// starts is bytes at the edges of blocks, the first and the last ones among them.
var starts = []int{0, 1, 2, 446, 447, 448, 449, 895, 896, 897, 5375, 5376, 55551, 55552, 2000000, maxSize - 897, maxSize - 896, maxSize - 895, maxSize - 449, maxSize - 448, maxSize - 447, maxSize - 2, maxSize - 1, maxSize}

// counts is how many bytes are touched.
var counts = []int{0, 1, 2, 3, 446, 447, 448, 449, 450, 894, 895, 896, 897, 898, 1024, 1343, 1344, 1345, 4480}

// 9.4: at the edges of blocks; what goes beyond the greatest size is refused.
func TestTouched(t *testing.T) {
	for _, at := range starts {
		for _, n := range counts {
			l, e := chart.Touched(at, n)
			if at+n > maxSize {
				if len(l) != 0 || e != api.ErrRange {
					t.Errorf("Touched(%d, %d): %v, error %d", at, n, l, e)
				}
				continue
			}
			if want := touched(at, n); !slices.Equal(l, want) || e != api.OK {
				t.Errorf("Touched(%d, %d): %v, error %d; want %v", at, n, l, e, want)
			}
		}
	}
}

// 9.4: one byte each: its own index. No byte: none.
func TestTouchedOne(t *testing.T) {
	for at := 0; at < maxSize; at += 13 {
		if l := mustTouched(t, at, 1); len(l) != 1 || l[0] != at/448 {
			t.Fatalf("Touched(%d, 1): %v", at, l)
		}
		if l := mustTouched(t, at, 0); len(l) != 0 {
			t.Fatalf("Touched(%d, 0): %v", at, l)
		}
	}
}

// 9.4, spelt out; the chapter's fourth example.
func TestTouchedSpelt(t *testing.T) {
	for _, c := range []struct {
		at, n int
		want  []int
	}{
		{447, 2, []int{0, 1}},
		{0, 0, nil},
		{447, 1, []int{0}},
		{448, 1, []int{1}},
		{0, 448, []int{0}},
		{0, 449, []int{0, 1}},
		{1, 448, []int{0, 1}},
		{447, 450, []int{0, 1, 2}},
		{447, 449, []int{0, 1}},
		{maxSize - 1, 1, []int{12667}},
		{maxSize, 0, nil},
	} {
		if l := mustTouched(t, c.at, c.n); !slices.Equal(l, c.want) {
			t.Errorf("Touched(%d, %d): %v; want %v", c.at, c.n, l, c.want)
		}
	}
}

// 9.4: all bytes, and all from one on: all indices that the size has.
func TestTouchedAll(t *testing.T) {
	all := stride(0, 12668, 1)
	for _, at := range []int{0, 1, 447, 448, 449, maxSize - 448, maxSize - 1, maxSize} {
		if l, want := mustTouched(t, at, maxSize-at), all[min(at/448, 12668):]; !slices.Equal(l, want) {
			t.Errorf("Touched(%d, all): %d indices; want %d", at, len(l), len(want))
		}
	}
	for size := 0; size <= maxSize; size += 44801 {
		n, e := chart.Span(size)
		if l := mustTouched(t, 0, size); e != api.OK || !slices.Equal(l, all[:n]) {
			t.Errorf("Touched(0, %d): %d indices; Span %d, error %d", size, len(l), n, e)
		}
	}
}

// 9.4, R1, R2, R6: below 0, and sums beyond the greatest size and beyond what an int holds.
func TestTouchedWrong(t *testing.T) {
	for _, c := range [][2]int{
		{-1, 0}, {-1, 1}, {-1, 2}, {0, -1}, {1, -1}, {448, -448}, {-1, -1}, {-448, 448}, {-448, 896},
		{maxSize, 1}, {maxSize - 1, 2}, {1, maxSize}, {0, maxSize + 1}, {maxSize + 1, 0}, {maxSize + 1, -1}, {-1, maxSize + 1}, {maxSize, maxSize},
		{math.MaxInt, 0}, {0, math.MaxInt}, {math.MaxInt, 1}, {1, math.MaxInt}, {math.MaxInt, math.MaxInt}, {maxSize, math.MaxInt}, {math.MaxInt, maxSize}, {math.MaxInt - 1, 2}, {2, math.MaxInt - 1},
		{math.MinInt, 0}, {0, math.MinInt}, {math.MinInt, math.MinInt}, {math.MinInt, math.MaxInt}, {math.MaxInt, math.MinInt}, {math.MinInt, -1}, {-1, math.MinInt}, {1, math.MinInt}, {math.MinInt, 1},
		{1 << 32, 0}, {0, 1 << 32}, {1 << 62, 1 << 62}, {0, 1 << 62},
	} {
		if l, e := chart.Touched(c[0], c[1]); len(l) != 0 || e != api.ErrRange {
			t.Errorf("Touched(%d, %d): %d indices, error %d", c[0], c[1], len(l), e)
		}
	}
}

// 9.6: what is touched by two pieces, one behind the other, is what is touched by both.
func TestTouchedPieces(t *testing.T) {
	for _, at := range starts {
		for _, n := range counts {
			for _, m := range counts {
				if at+n+m > maxSize {
					continue
				}
				pieces := slices.Compact(slices.Concat(mustTouched(t, at, n), mustTouched(t, at+n, m)))
				if both := mustTouched(t, at, n+m); !slices.Equal(pieces, both) {
					t.Errorf("Touched(%d, %d) and %d behind: %v; of both: %v", at, n, m, pieces, both)
				}
			}
		}
	}
	for _, cut := range []int{0, 1, 447, 448, 449, 2000000, maxSize - 1, maxSize} {
		pieces := slices.Compact(slices.Concat(mustTouched(t, 0, cut), mustTouched(t, cut, maxSize-cut)))
		if both := mustTouched(t, 0, maxSize); !slices.Equal(pieces, both) {
			t.Errorf("all, cut at %d: %d indices; %d of both", cut, len(pieces), len(both))
		}
	}
}

// R3, R4: a list that was handed out is the asker's own.
func TestTouchedOwn(t *testing.T) {
	for _, n := range []int{1, 448, 449, 4480} {
		l := mustTouched(t, 447, n)
		other := mustTouched(t, 447, n)
		for i := range l {
			l[i] = -5
		}
		l = append(l, -6)
		if want := touched(447, n); !slices.Equal(other, want) || !slices.Equal(mustTouched(t, 447, n), want) {
			t.Errorf("Touched(447, %d) behind a change of another answer: %v", n, other)
		}
	}
}
