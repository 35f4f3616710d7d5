package shelf_test

import (
	"slices"
	"strings"
	"testing"

	"grapnel/api"
	"grapnel/shelf"
)

func wantFind(t *testing.T, l []api.Entry, name string, want int) {
	t.Helper()
	if got := shelf.Find(l, name); got != want {
		t.Errorf("Find(%v, %q): %d; want %d", l, name, got, want)
	}
}

func wantSpare(t *testing.T, l []api.Entry, want int) {
	t.Helper()
	if got := shelf.Spare(l); got != want {
		t.Errorf("Spare(%v): %d; want %d", l, got, want)
	}
}

func wantNames(t *testing.T, l, want []api.Entry) {
	t.Helper()
	if got := shelf.Names(l); !slices.Equal(got, want) {
		t.Errorf("Names(%v): %v; want %v", l, got, want)
	}
}

// lengths is how many slots a list has: not sixteen alone, for a directory has as many as its blocks.
var lengths = []int{1, 2, 3, 15, 16, 17, 100}

// 11.2: a name at no place, and at each one: the first, those amid and the last.
func TestFind(t *testing.T) {
	for _, n := range lengths {
		for _, fill := range []api.Entry{{}, {Name: "other", Ino: 3, Gen: 1}, {Ino: 3, Gen: 1}} {
			wantFind(t, slices.Repeat([]api.Entry{fill}, n), "a", -1)
			for at := range n {
				l := slices.Repeat([]api.Entry{fill}, n)
				l[at] = api.Entry{Name: "a", Ino: 4, Gen: 2}
				wantFind(t, l, "a", at)
				wantFind(t, l, "b", -1)
			}
		}
	}
}

// 11.2: of a name that stands twice the first slot, at every two places, whatever the numbers there are.
func TestFindTwice(t *testing.T) {
	for at := range 16 {
		for behind := at + 1; behind < 16; behind++ {
			l := make([]api.Entry, 16)
			l[at], l[behind] = api.Entry{Name: "a"}, api.Entry{Name: "a", Ino: 3, Gen: 1}
			wantFind(t, l, "a", at)
			l[at], l[behind] = l[behind], l[at]
			wantFind(t, l, "a", at)
		}
	}
}

// 11.2: nothing is called by the empty name, and nothing is in an empty list.
func TestFindNone(t *testing.T) {
	for _, l := range [][]api.Entry{nil, {}, {{}}, {{Ino: 1}}, make([]api.Entry, 16), sixteen(), append(sixteen(), api.Entry{}), named("", "a", "")} {
		wantFind(t, l, "", -1)
	}
	for _, name := range []string{"a", longest, tooLong, "..", "\x00"} {
		wantFind(t, nil, name, -1)
		wantFind(t, []api.Entry{}, name, -1)
	}
}

// 11.2: names are held against each other whole and as they stand, also such as may not be.
func TestFindWhole(t *testing.T) {
	l := named("ab", "a\x00", "A", "a/b", "..", tooLong, "\xff", longest, "a")
	for at, x := range l {
		wantFind(t, l, x.Name, at)
	}
	for _, name := range []string{"b", "abc", "\x00", "a\x00\x00", "/", ".", "\ufffd", "\xfe", longest[1:], tooLong + "n"} {
		wantFind(t, l, name, -1)
	}
}

// 11.2: no free slot, one at each place, and two at every two places.
func TestSpare(t *testing.T) {
	wantSpare(t, nil, 0)
	wantSpare(t, []api.Entry{}, 0)
	for _, n := range lengths {
		full := slices.Repeat([]api.Entry{{Name: "a", Ino: 3, Gen: 1}}, n)
		wantSpare(t, full, n)
		for at := range n {
			one := slices.Clone(full)
			one[at] = api.Entry{}
			wantSpare(t, one, at)
			for behind := at + 1; behind < n; behind++ {
				two := slices.Clone(one)
				two[behind] = api.Entry{}
				wantSpare(t, two, at)
			}
		}
	}
}

// 11.2: a slot is free by its name alone: neither numbers there, nor none beside a name, count.
func TestSpareNumbers(t *testing.T) {
	wantSpare(t, []api.Entry{{Name: "a"}, {Ino: 1}, {}}, 1)
	wantSpare(t, []api.Entry{{Name: "a"}, {Gen: 1}, {}}, 1)
	wantSpare(t, []api.Entry{{Name: "a"}, {Name: ".."}, {Name: tooLong}, {Name: "\x00"}}, 4)
}

// 11.2: the entries that have names, as they stand and in their order.
func TestNames(t *testing.T) {
	wantNames(t, nil, nil)
	wantNames(t, []api.Entry{}, nil)
	wantNames(t, make([]api.Entry, 16), nil)
	wantNames(t, []api.Entry{{Ino: 1}, {Gen: 1}, {}}, nil)
	wantNames(t, sixteen(), sixteen())
	back := sixteen()
	slices.Reverse(back)
	wantNames(t, back, back)
	odd := []api.Entry{{Name: "b"}, {Name: "a", Ino: -1, Gen: 1 << 40}, {Name: "b", Ino: 1}, {Name: ".."}, {Name: tooLong}, {Name: "a/b"}, {Name: "\x00"}}
	wantNames(t, odd, odd)
}

// 11.2: each set of ten slots being free.
func TestNamesMixed(t *testing.T) {
	for set := range 1 << 10 {
		l, want := sixteen()[:10], []api.Entry{}
		for i := range l {
			if set>>i&1 == 1 {
				l[i] = api.Entry{}
			} else {
				want = append(want, l[i])
			}
		}
		wantNames(t, l, want)
	}
}

// 11.2: every list of up to four entries of a few, against the chapter's words.
func TestSlotsAll(t *testing.T) {
	few := []api.Entry{{}, {Ino: 1}, {Name: "a", Ino: 3, Gen: 1}, {Name: "a"}, {Name: "b", Ino: 4}, {Name: "a/b"}}
	for _, l := range rows(few, 4) {
		spare, places, all := len(l), map[string]int{}, []api.Entry{}
		for i := len(l) - 1; i >= 0; i-- {
			places[l[i].Name] = i + 1
			if l[i].Name == "" {
				spare = i
			} else {
				all = append([]api.Entry{l[i]}, all...)
			}
		}
		delete(places, "")
		wantSpare(t, l, spare)
		wantNames(t, l, all)
		for _, name := range []string{"", "a", "b", "c", "a/b"} {
			wantFind(t, l, name, places[name]-1)
		}
	}
}

// R3: a list that was handed out is the asker's own, and no name in it shares memory with one that was handed in.
func TestNamesOwn(t *testing.T) {
	l := []api.Entry{{Name: strings.Clone("abc"), Ino: 3, Gen: 1}, {}, {Name: strings.Clone("d"), Ino: 4, Gen: 2}}
	for _, from := range [][]api.Entry{l, {l[0]}, {l[0], l[2]}} {
		first, second := shelf.Names(from), shelf.Names(from)
		for i, x := range first {
			if sameMemory(x.Name, l[0].Name) || sameMemory(x.Name, l[2].Name) {
				t.Errorf("the name %q shares memory with what was handed in", x.Name)
			}
			first[i] = api.Entry{Name: "x"}
		}
		_ = append(first, entries...)
		_ = append(first[:0], entries...)
		if second[0] != l[0] || second[len(second)-1] != from[len(from)-1] || from[0].Name != "abc" {
			t.Errorf("left %v of %v", second, from)
		}
	}
}

// The chapter's first example.
func TestSpareExample(t *testing.T) {
	wantSpare(t, make([]api.Entry, 16), 0)
}
