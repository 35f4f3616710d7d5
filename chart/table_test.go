package chart_test

import (
	"encoding/binary"
	"math"
	"slices"
	"strings"
	"testing"
	"unsafe"

	"grapnel/api"
	"grapnel/chart"
)

// numbers is what a table's number may be.
var numbers = []int{0, 1, 255, 256, 65535, 65536, 1<<24 - 1, 1 << 24, 1<<31 - 1, 1 << 31, 1<<32 - 2, 1<<32 - 1}

// noNumbers is what none may.
var noNumbers = []int{1 << 32, 1<<32 + 1, 1 << 40, 1 << 48, -1, -255, -1 << 31, -1 << 32, 1 - 1<<32, math.MinInt, math.MinInt + 1, math.MaxInt - 1, math.MaxInt}

// bodyOf is numbers as bytes, by Go's own package.
func bodyOf(l []int) string {
	var b []byte
	for _, n := range l {
		b = binary.LittleEndian.AppendUint32(b, uint32(n))
	}
	return string(b)
}

// tables is lists of 112 numbers: one of a kind at each place, all alike, and all unlike.
func tables() [][]int {
	var out [][]int
	unlike := make([]int, 112)
	for i := range unlike {
		unlike[i] = (i*2654435761 + i) % (1 << 32)
	}
	for _, n := range numbers {
		out = append(out, slices.Repeat([]int{n}, 112))
		for i := range 112 {
			one := make([]int, 112)
			one[i] = n
			another := slices.Clone(unlike)
			another[i] = n
			out = append(out, one, another)
		}
	}
	return append(out, unlike)
}

// 9.5, 9.6: numbers as a body, a body as numbers, and both back.
func TestTableAndBody(t *testing.T) {
	for _, l := range tables() {
		body := mustBody(t, l)
		if want := bodyOf(l); body != want {
			t.Fatalf("Body(%v): %x; want %x", l, body, want)
		}
		if got := mustTable(t, body); !slices.Equal(got, l) {
			t.Fatalf("Table of Body of %v: %v", l, got)
		}
	}
}

// 9.5, 9.6: bodies of any bytes.
func TestBodyOfTable(t *testing.T) {
	for at := range 448 {
		for _, b := range []byte{1, 0x7f, 0x80, 0xff} {
			bytes := make([]byte, 448)
			bytes[at] = b
			l := mustTable(t, string(bytes))
			for i, n := range l {
				want := 0
				if i == at/4 {
					want = int(b) << (8 * (at % 4))
				}
				if n != want {
					t.Fatalf("Table of %x at %d: %d at %d; want %d", b, at, n, i, want)
				}
			}
			if body := mustBody(t, l); len(l) != 112 || body != string(bytes) {
				t.Fatalf("Body of Table of %x at %d: %x", b, at, body)
			}
		}
	}
	full := strings.Repeat("\xff", 448)
	if body := mustBody(t, mustTable(t, full)); body != full {
		t.Errorf("Body of Table of bytes ff: %x", body)
	}
}

// 9.5, R2: bodies of other lengths.
func TestTableWrong(t *testing.T) {
	for _, fill := range []string{"\x00", "\x01", "\xff"} {
		for _, length := range []int{0, 1, 4, 112, 444, 447, 449, 452, 512, 896} {
			if l, e := chart.Table(strings.Repeat(fill, length)); len(l) != 0 || e != api.ErrArg {
				t.Errorf("Table of %d bytes: %v, error %d", length, l, e)
			}
		}
	}
}

// 9.5, R2: other counts of numbers; ErrArg goes ahead of ErrRange.
func TestBodyWrongCount(t *testing.T) {
	for _, count := range []int{0, 1, 12, 111, 113, 224, 448} {
		for _, n := range slices.Concat(numbers, noNumbers) {
			if body, e := chart.Body(slices.Repeat([]int{n}, count)); body != "" || e != api.ErrArg {
				t.Errorf("Body of %d numbers %d: %x, error %d", count, n, body, e)
			}
		}
	}
	if body, e := chart.Body(nil); body != "" || e != api.ErrArg {
		t.Errorf("Body(nil): %x, error %d", body, e)
	}
}

// 9.5, R2: a number that may not be, at each place.
func TestBodyWrongNumber(t *testing.T) {
	for _, n := range noNumbers {
		for i := range 112 {
			l := slices.Repeat([]int{7}, 112)
			l[i] = n
			if body, e := chart.Body(l); body != "" || e != api.ErrRange {
				t.Errorf("Body with %d at %d: %x, error %d", n, i, body, e)
			}
		}
	}
}

// R3: what is handed in stays as it is, and what was told does not change with it.
func TestTableKeepsNothing(t *testing.T) {
	l := tables()[5]
	for _, n := range []int{3, 1 << 32} {
		one := slices.Clone(l)
		one[4] = n
		list, stays := fenced(t, one)
		chart.Body(list)
		stays()
	}
	list := slices.Clone(l)
	body := mustBody(t, list)
	for i := range list {
		list[i] = 9
	}
	if body != bodyOf(l) {
		t.Errorf("a body behind a change of its numbers: %x", body)
	}
	b := []byte(body)
	told := mustTable(t, unsafe.String(&b[0], len(b)))
	if string(b) != body {
		t.Errorf("a body that was handed in: %x", b)
	}
	clear(b)
	if !slices.Equal(told, l) {
		t.Errorf("numbers behind a change of their body: %v", told)
	}
}

// R3, R4: a list that was handed out is the asker's own.
func TestTableOwn(t *testing.T) {
	want := tables()[7]
	body := bodyOf(want)
	l, other := mustTable(t, body), mustTable(t, body)
	for i := range l {
		l[i] = -5
	}
	if !slices.Equal(other, want) || !slices.Equal(mustTable(t, body), want) || body != bodyOf(want) {
		t.Errorf("Table behind a change of another answer: %v", other)
	}
}
