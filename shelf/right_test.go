package shelf_test

import (
	"math"
	"slices"
	"strconv"
	"strings"
	"testing"

	"grapnel/api"
	"grapnel/shelf"
)

// mayBe is a name as chapter 10's words say it, byte by byte.
func mayBe(s string) bool {
	if len(s) < 1 || len(s) > 19 || s == "." || s == ".." {
		return false
	}
	for _, b := range []byte(s) {
		if b < 33 || b > 126 || b == '/' {
			return false
		}
	}
	return true
}

// rightOf is Right as the chapter's words say it.
func rightOf(l []api.Entry) []bool {
	var right []bool
	for i, x := range l {
		ahead := slices.ContainsFunc(l[:i], func(y api.Entry) bool { return y.Name == x.Name })
		right = append(right, x.Name == "" && x.Ino == 0 && x.Gen == 0 || mayBe(x.Name) && !ahead)
	}
	return right
}

func wantRight(t *testing.T, l []api.Entry, want ...bool) {
	t.Helper()
	if got := shelf.Right(l); !slices.Equal(got, want) {
		t.Errorf("Right(%v): %v; want %v", l, got, want)
	}
}

// 11.3: lists without slots.
func TestRightNone(t *testing.T) {
	wantRight(t, nil)
	wantRight(t, []api.Entry{})
}

// 11.3: free slots may be as many as one likes, if their numbers are 0; each of which is not is wrong alone.
func TestRightFree(t *testing.T) {
	for _, n := range lengths {
		l, want := make([]api.Entry, n), slices.Repeat([]bool{true}, n)
		wantRight(t, l, want...)
		for at := range n {
			for _, x := range []api.Entry{{Ino: 1}, {Gen: 1}, {Ino: 3, Gen: 1}, {Ino: -1}, {Gen: -1}, {Ino: 1 << 32}, {Gen: math.MinInt}} {
				l[at], want[at] = x, false
				wantRight(t, l, want...)
			}
			l[at], want[at] = api.Entry{}, true
		}
	}
	wantRight(t, []api.Entry{{Ino: 1}, {Ino: 1}, {}, {Gen: 1}}, false, false, true, false)
}

// 11.3: names that may be and such that may not, alone and at each place among others.
func TestRightNames(t *testing.T) {
	names := []string{
		"a", "~", "!", "...", ".a", "a.", "lost+found", longest, strings.Repeat(".", 19),
		".", "..", "/", "a/b", "/a", "a/", " ", "a b", "\x00", "a\x00", "\x1f", "\x7f", "\x80", "\xff", "é", "a\xc3", "\ufffd",
		tooLong, strings.Repeat("/", 20), strings.Repeat("n", 300), strings.Repeat("n", 18) + " ",
	}
	for _, name := range names {
		wantRight(t, []api.Entry{{Name: name}}, mayBe(name))
		for at := range 16 {
			l, want := sixteen(), slices.Repeat([]bool{true}, 16)
			l[at], want[at] = api.Entry{Name: name, Ino: 3, Gen: 1}, mayBe(name)
			wantRight(t, l, want...)
		}
	}
}

// 11.3: each byte in a name.
func TestRightBytes(t *testing.T) {
	for b := range 256 {
		x := string([]byte{byte(b)})
		l := named(x, x+"a", "a"+x, "a"+x+"b", strings.Repeat(x, 18)+"n", strings.Repeat(x, 20))
		wantRight(t, l, rightOf(l)...)
	}
}

// 11.3: numbers beside a name are not looked at.
func TestRightNumbers(t *testing.T) {
	for _, n := range []int{0, 1, 2, 1<<32 - 1, 1 << 32, -1, math.MaxInt, math.MinInt} {
		wantRight(t, []api.Entry{{Name: "a", Ino: n}, {Name: "b", Gen: n}, {Name: "c", Ino: n, Gen: n}}, true, true, true)
		wantRight(t, []api.Entry{{Name: "a", Ino: n, Gen: n}, {Name: "a", Ino: 3, Gen: 1}}, true, false)
	}
}

// 11.3: of a name that stands twice, or three times, the first slot alone, wherever they are; a slot that is wrong itself, since the name stands ahead of it, too, counts as having the name.
func TestRightTwice(t *testing.T) {
	for at := range 16 {
		for behind := at + 1; behind < 16; behind++ {
			for last := behind; last < 16; last++ {
				l, want := sixteen(), slices.Repeat([]bool{true}, 16)
				l[behind].Name, want[behind] = l[at].Name, false
				l[last].Name, want[last] = l[at].Name, false
				wantRight(t, l, want...)
			}
		}
	}
	wantRight(t, named("a", "b", "a", "b", "a", "c"), true, true, false, false, false, true)
	wantRight(t, slices.Repeat(named("a"), 17), rightOf(slices.Repeat(named("a"), 17))...)
}

// 11.3: a name that stands behind a slot of the same name that may not be, for its numbers have no room, or for the name itself.
func TestRightBehindWrong(t *testing.T) {
	for _, wrong := range []api.Entry{{Name: "a", Ino: -1}, {Name: "a", Gen: 1 << 32}, {Name: "a"}} {
		wantRight(t, []api.Entry{wrong, {Name: "a", Ino: 3, Gen: 1}}, true, false)
		wantRight(t, []api.Entry{{Name: "a", Ino: 3, Gen: 1}, wrong, {Name: "a", Ino: 3, Gen: 1}}, true, false, false)
	}
	for _, name := range []string{".", "..", "a/b", tooLong, "\xff"} {
		wantRight(t, named(name, name, "a", name), false, false, true, false)
	}
	wantRight(t, []api.Entry{{Ino: 1}, {}, {Gen: 1}, {}}, false, true, false, true)
}

// 11.3: names are held against each other whole: what begins alike, or differs in a letter's case, is another one.
func TestRightUnlike(t *testing.T) {
	wantRight(t, named("a", "A", "ab", "aa", "b", "ba", longest, longest[1:]), true, true, true, true, true, true, true, true)
}

// 11.3: every list of up to five entries of a few, against the chapter's words.
func TestRightAll(t *testing.T) {
	few := []api.Entry{{}, {Ino: 1}, {Gen: 1}, {Name: "a", Ino: 3, Gen: 1}, {Name: "a"}, {Name: "b", Ino: 4}, {Name: "a/b"}, {Name: ".."}, {Name: tooLong}}
	for _, l := range rows(few, 5) {
		wantRight(t, l, rightOf(l)...)
	}
}

// 11.3, R1: a list of very many slots ends, too.
func TestRightMany(t *testing.T) {
	const many = 1 << 19
	l := make([]api.Entry, 0, 2*many)
	for i := range many {
		l = append(l, api.Entry{Name: strconv.Itoa(i), Ino: 3, Gen: 1})
	}
	l = append(l, l...)
	for i, right := range shelf.Right(l) {
		if right != (i < many) {
			t.Fatalf("Right of %d names that stand twice: %v at %d", many, right, i)
		}
	}
}

// R3: a list that was handed out is the asker's own.
func TestRightOwn(t *testing.T) {
	l := named("a", "a", "b", "")
	first, second := shelf.Right(l), shelf.Right(l)
	for i := range first {
		first[i] = !first[i]
	}
	_ = append(first[:0], false, true, false, false)
	if !slices.Equal(second, []bool{true, false, true, true}) {
		t.Errorf("the second list: %v", second)
	}
	wantRight(t, l, true, false, true, true)
}

// The chapter's second example.
func TestRightExample(t *testing.T) {
	wantRight(t, []api.Entry{{Name: "a"}, {Name: "a"}, {Name: "a/b"}, {}}, true, false, false, true)
}
