package path_test

import (
	"slices"
	"strings"
	"testing"

	"grapnel/api"
	"grapnel/path"
)

// 10.3: no names, one, and many.
func TestJoin(t *testing.T) {
	for _, c := range []struct {
		l    []string
		want string
	}{
		{nil, "/"},
		{[]string{}, "/"},
		{[]string{"a"}, "/a"},
		{[]string{"a", "b"}, "/a/b"},
		{[]string{"b", "a", "b"}, "/b/a/b"},
		{[]string{"...", ".a", "a."}, "/.../.a/a."},
		{[]string{longest}, "/" + longest},
		{shortNames(254), strings.Repeat("/s", 127)},
	} {
		wantJoin(t, c.l, c.want, api.OK)
	}
}

// 10.3: what is no name at each place of rows that may be else.
func TestJoinWrong(t *testing.T) {
	for _, part := range append([]string{"/", "/a", "a/", "a/b", "//"}, parts...) {
		if nameError(part) == api.OK {
			continue
		}
		for n := 1; n <= 12; n++ {
			for at := range n {
				l := slices.Repeat([]string{longest}, n)
				l[at] = part
				wantJoin(t, l, "", nameError(part))
			}
		}
	}
}

// 10.3: of two faults the one that stands first.
func TestJoinTwoFaults(t *testing.T) {
	wantJoin(t, []string{tooLong, ".."}, "", api.ErrLong)
	wantJoin(t, []string{"..", tooLong}, "", api.ErrPath)
	wantJoin(t, []string{"a", tooLong, ""}, "", api.ErrLong)
	wantJoin(t, []string{"a", "", tooLong}, "", api.ErrPath)
	wantJoin(t, []string{"a/b", tooLong}, "", api.ErrPath)
}

// 10.3, 10.5: names whose path has each length up to the greatest and beyond it; Split of Join is the names.
func TestJoinLengths(t *testing.T) {
	for n := 2; n <= 300; n++ {
		for _, l := range [][]string{namesOf(n), shortNames(n)} {
			if n > 255 {
				wantJoin(t, l, "", api.ErrLong)
				continue
			}
			s := plain(l)
			wantJoin(t, l, s, api.OK)
			wantSplit(t, s, l, api.OK)
		}
	}
	wantJoin(t, slices.Repeat([]string{"a"}, 1<<20), "", api.ErrLong)
}

// 10.3: the path is too long at some name: what is no name behind that one is not looked at, while one ahead of it, or there itself, goes first.
func TestJoinFaultAndLength(t *testing.T) {
	full := namesOf(255)
	for _, over := range [][]string{append(slices.Clone(full), "a"), append(namesOf(254), "a"), append(namesOf(240), longest), shortNames(256)} {
		last := len(over) - 1
		for _, wrong := range []string{"", "..", "a/b", "\xff"} {
			wantJoin(t, append(slices.Clone(over), wrong), "", api.ErrLong)
			wantJoin(t, append(slices.Clone(over), "a", wrong), "", api.ErrLong)
			for at := range last + 1 {
				l := slices.Clone(over)
				l[at] = wrong
				wantJoin(t, l, "", api.ErrPath)
			}
		}
	}
	wantJoin(t, append(full, ""), "", api.ErrPath)
}

// 10.3, 10.5: every list of up to three parts against the chapter's words; Split of Join is the names.
func TestJoinAll(t *testing.T) {
	for _, l := range rows(append([]string{"/", "/a", "a/b"}, parts...), 3) {
		want, wantError := joinOf(l)
		wantJoin(t, l, want, wantError)
		if s, e := path.Join(l); e == api.OK {
			wantSplit(t, s, l, api.OK)
		}
	}
}

// R3: a list that is handed in stays as it is, and so does what lies behind its end; the path of one name is new memory.
func TestJoinLeaves(t *testing.T) {
	for _, l := range [][]string{{"a", "b", "c", "d"}, {"a", "..", "c", "d"}, {longest, tooLong, "c", "d"}, namesOf(255), namesOf(256)} {
		was := slices.Clone(l)
		for n := range len(l) + 1 {
			path.Join(l[:n])
			if !slices.Equal(l, was) {
				t.Fatalf("Join of the first %d of %q: left %q", n, was, l)
			}
		}
	}
	name := strings.Clone("abc")
	if s, _ := path.Join([]string{name}); within(s[1:], name) {
		t.Errorf("the path %q shares memory with its name", s)
	}
}
