package grid_test

import (
	"math"
	"slices"
	"strings"
	"testing"
	"unsafe"

	"grapnel/api"
	"grapnel/grid"
)

// 8.1: none of a new grid is used.
func TestNew(t *testing.T) {
	for _, n := range sizes {
		wantGrid(t, "New", mustNew(t, n), make(model, n))
	}
}

// 8.1, R1, R2: sizes that may not be.
func TestNewWrong(t *testing.T) {
	for _, n := range wrongSizes {
		if g, e := grid.New(n); g != nil || e != api.ErrArg {
			t.Errorf("New(%d): grid %v, error %d", n, g != nil, e)
		}
	}
}

// 8.1, 8.2, 8.4: the grid whose body it is; Of of Body is the same grid.
func TestOf(t *testing.T) {
	forAll(t, func(t *testing.T, m model) {
		g := mustOf(t, m.body(), len(m))
		wantGrid(t, "Of", g, m)
		wantGrid(t, "Of of Body", mustOf(t, g.Body(), g.Size()), m)
		wantGrid(t, "Of of Body of Puts", mustOf(t, m.grid(t).Body(), len(m)), m)
	})
}

// 8.1: bodies of other lengths, and sizes that may not be; ErrArg goes ahead of ErrForm.
func TestOfWrong(t *testing.T) {
	for _, fill := range []string{"\x00", "\x01", "\x80", "\xff"} {
		for _, length := range []int{0, 1, 447, 449, 512, 4096} {
			for _, n := range slices.Concat(sizes, wrongSizes) {
				if g, e := grid.Of(strings.Repeat(fill, length), n); g != nil || e != api.ErrArg {
					t.Errorf("Of(%d bytes %x, %d): grid %v, error %d", length, fill, n, g != nil, e)
				}
			}
		}
		for _, n := range wrongSizes {
			if g, e := grid.Of(strings.Repeat(fill, 448), n); g != nil || e != api.ErrArg {
				t.Errorf("Of(448 bytes %x, %d): grid %v, error %d", fill, n, g != nil, e)
			}
		}
	}
}

// 8.1: each single bit of a body: below n it is used, at n and behind it there is no such grid, whatever is used below.
func TestOfEachBit(t *testing.T) {
	for _, n := range sizes {
		for bit := range 3584 {
			body := []byte(model(make([]bool, 3584)).with([]int{bit}).body())
			if bit < n {
				g := mustOf(t, string(body), n)
				if g.Body() != string(body) || g.Count() != 1 || !g.Has(bit) {
					t.Fatalf("Of the bit %d, %d: Body %x, Count %d, Has %v", bit, n, g.Body(), g.Count(), g.Has(bit))
				}
				continue
			}
			wantNoForm(t, string(body), n)
			for i, b := range []byte(filled(n, func(int) bool { return true }).body()) {
				body[i] |= b
			}
			wantNoForm(t, string(body), n)
		}
	}
}

// 8.1: all bits of a body are set, or all from n on.
func TestOfTooMany(t *testing.T) {
	full := strings.Repeat("\xff", 448)
	wantGrid(t, "Of all", mustOf(t, full, 3584), filled(3584, func(int) bool { return true }))
	for _, n := range sizes {
		if n < 3584 {
			wantNoForm(t, full, n)
			wantNoForm(t, filled(3584, func(i int) bool { return i >= n }).body(), n)
		}
	}
}

func wantNoForm(t *testing.T, body string, n int) {
	t.Helper()
	if g, e := grid.Of(body, n); g != nil || e != api.ErrForm {
		t.Fatalf("Of(%x, %d): grid %v, error %d", body, n, g != nil, e)
	}
}

// 8.2: the bits of the chapter, byte for byte.
func TestBodySpelt(t *testing.T) {
	for _, c := range []struct {
		i, at int
		b     byte
	}{{0, 0, 1}, {1, 0, 2}, {6, 0, 0x40}, {7, 0, 0x80}, {8, 1, 1}, {9, 1, 2}, {63, 7, 0x80}, {64, 8, 1}, {3575, 446, 0x80}, {3576, 447, 1}, {3583, 447, 0x80}} {
		g := mustNew(t, 3584)
		mustPut(t, g, c.i, true)
		want := make([]byte, 448)
		want[c.at] = c.b
		if g.Body() != string(want) {
			t.Errorf("%d is used: Body %x; want %x at %d", c.i, g.Body(), c.b, c.at)
		}
	}
}

// 8.2: each place put, one by one, to what it is not and to what it is already.
func TestPut(t *testing.T) {
	forAll(t, func(t *testing.T, m model) {
		g := m.grid(t)
		body, count := m.body(), len(m)-len(m.free(0))
		for i, used := range m {
			mustPut(t, g, i, used)
			if g.Body() != body || g.Has(i) != used || g.Count() != count {
				t.Fatalf("Put(%d, %v) of what it is: Has %v, Count %d, Body %x", i, used, g.Has(i), g.Count(), g.Body())
			}
			mustPut(t, g, i, !used)
			more, want := -1, []byte(body)
			if !used {
				more = 1
			}
			want[i/8] ^= 1 << (i % 8)
			if g.Body() != string(want) || g.Has(i) == used || g.Count() != count+more {
				t.Fatalf("Put(%d, %v): Has %v, Count %d, Body %x", i, !used, g.Has(i), g.Count(), g.Body())
			}
			mustPut(t, g, i, !used)
			if g.Body() != string(want) {
				t.Fatalf("Put(%d, %v) again: Body %x", i, !used, g.Body())
			}
			mustPut(t, g, i, used)
		}
		wantGrid(t, "behind Puts and back", g, m)
	})
}

// 8.2: all are put, and then all are put back; each is told of on the way.
func TestPutAll(t *testing.T) {
	for _, n := range sizes {
		g, m := mustNew(t, n), make(model, n)
		for _, used := range []bool{true, false} {
			for i := range n {
				mustPut(t, g, i, used)
				m[i] = used
				if n < 100 || i%512 == 511 {
					wantGrid(t, "Put", g, m)
				}
			}
			wantGrid(t, "all put", g, m)
		}
	}
}

// 8.2, R2: there is no such one, and nothing is changed.
func TestPutOutside(t *testing.T) {
	forAll(t, func(t *testing.T, m model) {
		g := m.grid(t)
		for _, i := range outside(len(m)) {
			for _, used := range []bool{true, false} {
				if e := g.Put(i, used); e != api.ErrRange {
					t.Errorf("Put(%d, %v) of %d: error %d", i, used, len(m), e)
				}
			}
		}
		wantGrid(t, "Put outside", g, m)
	})
}

// 8.2: a copy tells the same; it and what it was copied from know nothing of each other.
func TestCopy(t *testing.T) {
	forAll(t, func(t *testing.T, m model) {
		g := m.grid(t)
		h := g.Copy()
		if h == nil || h == g {
			t.Fatalf("Copy: a grid %v, the same one %v", h != nil, h == g)
		}
		wantGrid(t, "Copy", h, m)
		other := filled(len(m), func(i int) bool { return !m[i] })
		for i := range m {
			mustPut(t, h, i, other[i])
		}
		wantGrid(t, "what a changed one was copied from", g, m)
		wantGrid(t, "a changed copy", h, other)
		if _, e := g.Take(len(m.free(0)), 0); e != api.OK {
			t.Fatalf("Take: error %d", e)
		}
		wantGrid(t, "a copy of what was taken from", h, other)
		wantGrid(t, "a copy of a copy", h.Copy(), other)
	})
}

// R3: a grid keeps no text's memory, nor does a body that it told change behind.
func TestKeepsNothing(t *testing.T) {
	m := filled(65, func(i int) bool { return i%3 == 0 })
	b := []byte(m.body())
	g := mustOf(t, unsafe.String(&b[0], len(b)), 65)
	for i := range b {
		b[i] = 0xff
	}
	wantGrid(t, "a text's memory changed", g, m)
	told := g.Body()
	mustPut(t, g, 0, false)
	mustPut(t, g, 1, true)
	if told != m.body() {
		t.Errorf("a body that was told: %x", told)
	}
	copy(b, m.body())
	g = mustOf(t, unsafe.String(&b[0], len(b)), 65)
	for i := range 65 {
		mustPut(t, g, i, true)
	}
	if string(b) != m.body() {
		t.Errorf("what was handed in: %x", b)
	}
}

// 8.1: grids know nothing of each other.
func TestTwoGrids(t *testing.T) {
	g, h := mustNew(t, 20), mustNew(t, 20)
	mustPut(t, g, 3, true)
	wantGrid(t, "the other one", h, make(model, 20))
	mustPut(t, h, 4, true)
	wantGrid(t, "the one", g, make(model, 20).with([]int{3}))
	wantGrid(t, "a third one", mustNew(t, 20), make(model, 20))
}

// 8.3: a nil grid, at all arguments.
func TestNil(t *testing.T) {
	var g *grid.Grid
	if g.Size() != 0 || g.Count() != 0 || g.Body() != "" || g.Copy() != nil {
		t.Errorf("nil: Size %d, Count %d, Body %x, Copy %v", g.Size(), g.Count(), g.Body(), g.Copy())
	}
	all := []int{0, 1, -1, 7, 8, 3583, 3584, 3585, math.MinInt, math.MaxInt}
	for _, i := range all {
		if g.Has(i) {
			t.Errorf("nil: Has(%d)", i)
		}
		for _, used := range []bool{true, false} {
			if e := g.Put(i, used); e != api.ErrRange {
				t.Errorf("nil: Put(%d, %v): error %d", i, used, e)
			}
		}
		if at, ok := g.Next(i); at != 0 || ok {
			t.Errorf("nil: Next(%d): %d, %v", i, at, ok)
		}
		for _, k := range all {
			if l, e := g.Take(k, i); len(l) != 0 || e != api.ErrArg {
				t.Errorf("nil: Take(%d, %d): %v, error %d", k, i, l, e)
			}
		}
	}
}

// A grid that no call made is a grid of 0.
func TestNotMade(t *testing.T) {
	g := new(grid.Grid)
	wantGrid(t, "not made", g, model{})
	wantGrid(t, "a copy of it", g.Copy(), model{})
	for _, from := range outside(0) {
		if at, ok := g.Next(from); at != 0 || ok {
			t.Errorf("Next(%d): %d, %v", from, at, ok)
		}
		if l, e := g.Take(0, from); len(l) != 0 || e != api.OK {
			t.Errorf("Take(0, %d): %v, error %d", from, l, e)
		}
		if l, e := g.Take(1, from); len(l) != 0 || e != api.ErrFull {
			t.Errorf("Take(1, %d): %v, error %d", from, l, e)
		}
	}
}

// The chapter's examples.
func TestExamples(t *testing.T) {
	g := mustNew(t, 10)
	mustPut(t, g, 0, true)
	mustPut(t, g, 1, true)
	if g.Body() != "\x03"+strings.Repeat("\x00", 447) {
		t.Errorf("Body: %x", g.Body())
	}
	if at, ok := g.Next(0); at != 2 || !ok {
		t.Errorf("Next(0): %d, %v", at, ok)
	}
	if l, e := g.Take(9, 0); len(l) != 0 || e != api.ErrFull {
		t.Errorf("Take(9, 0): %v, error %d", l, e)
	}
	if l, e := g.Take(2, 1); !slices.Equal(l, []int{2, 3}) || e != api.OK {
		t.Errorf("Take(2, 1): %v, error %d", l, e)
	}
}
