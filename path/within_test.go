package path_test

import (
	"slices"
	"strings"
	"testing"

	"grapnel/path"
)

func wantWithin(t *testing.T, l, in []string, want bool) {
	t.Helper()
	if got := path.Within(l, in); got != want {
		t.Errorf("Within(%q, %q): %v", l, in, got)
	}
}

// 10.4: each list lies in itself and in each of its beginnings, the empty one among them; in no longer one.
func TestWithinBeginnings(t *testing.T) {
	wantWithin(t, nil, nil, true)
	wantWithin(t, nil, []string{}, true)
	wantWithin(t, []string{}, nil, true)
	for _, whole := range [][]string{{"a"}, {"a", "b"}, {"a", "a", "a"}, {"a", "b", "c", "d", "e"}, namesOf(255), shortNames(255), parts} {
		for n := range len(whole) + 1 {
			wantWithin(t, whole, slices.Clone(whole[:n]), true)
			wantWithin(t, slices.Clone(whole[:n]), whole, n == len(whole))
		}
		wantWithin(t, whole, nil, true)
		wantWithin(t, nil, whole, false)
	}
}

// 10.4: lists that part from one another at each place, the first, those amid and the last among them.
func TestWithinParting(t *testing.T) {
	whole := []string{"a", "b", "c", "d", "e"}
	for _, other := range []string{"x", "", "A", "aa", "a/b"} {
		for at := range whole {
			parted := slices.Clone(whole)
			parted[at] = other
			for n := range len(whole) + 1 {
				wantWithin(t, whole, parted[:n], n <= at)
				wantWithin(t, parted, whole[:n], n <= at)
			}
		}
	}
}

// 10.4: names are held against each other whole: a beginning of a name is another one, and slashes in names make no others of them.
func TestWithinWholeNames(t *testing.T) {
	wantWithin(t, []string{"ab"}, []string{"a"}, false)
	wantWithin(t, []string{"a"}, []string{"ab"}, false)
	wantWithin(t, []string{"ab", "c"}, []string{"a"}, false)
	wantWithin(t, []string{"a", "bc"}, []string{"a", "b"}, false)
	wantWithin(t, []string{"a", "b"}, []string{"a/b"}, false)
	wantWithin(t, []string{"a/b"}, []string{"a"}, false)
	wantWithin(t, []string{"ab"}, []string{"a", "b"}, false)
	wantWithin(t, []string{"b", "a"}, []string{"a"}, false)
	wantWithin(t, []string{"a"}, []string{""}, false)
	wantWithin(t, []string{"\xff"}, []string{"\xfe"}, false)
	wantWithin(t, []string{"\xff"}, []string{"\ufffd"}, false)
}

// 10.4: every two lists of up to four names, against the chapter's words: what is left of l ahead of some rest is in.
func TestWithinAll(t *testing.T) {
	all := rows([]string{"a", "b", ""}, 4)
	for _, l := range all {
		begins := map[string]int{}
		for n := range len(l) + 1 {
			begins[plain(l[:n])]++
		}
		for _, in := range all {
			wantWithin(t, l, in, begins[plain(in)] > 0)
		}
	}
}

// R3: lists that are handed in stay as they are, and so does what lies behind their ends, which is not looked at.
func TestWithinLeaves(t *testing.T) {
	l, in := []string{"a", "b", "c", "d"}, []string{"a", "b", "x", "y"}
	for n := range len(l) + 1 {
		for m := range len(in) + 1 {
			wantWithin(t, l[:n], in[:m], m <= n && m <= 2)
		}
	}
	if strings.Join(l, "") != "abcd" || strings.Join(in, "") != "abxy" {
		t.Errorf("Within left %q, %q", l, in)
	}
}
