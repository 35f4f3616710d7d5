package path_test

import (
	"slices"
	"strings"
	"testing"
	"unsafe"

	"grapnel/api"
	"grapnel/path"
)

var (
	longest = strings.Repeat("n", 19)
	tooLong = strings.Repeat("n", 20)
)

// 10.2: paths as they may be.
func TestSplit(t *testing.T) {
	for _, c := range []struct {
		s    string
		want []string
	}{
		{"/", nil},
		{"/a", []string{"a"}},
		{"/a/b", []string{"a", "b"}},
		{"/b/a/b", []string{"b", "a", "b"}},
		{"/.../.a/a.", []string{"...", ".a", "a."}},
		{"/" + longest, []string{longest}},
		{"/" + longest + "/" + longest + "/~", []string{longest, longest, "~"}},
	} {
		wantSplit(t, c.s, c.want, api.OK)
	}
}

// 10.2: what is no path, its fault alone: no slash ahead, none between slashes, a name that may not be.
func TestSplitWrong(t *testing.T) {
	for _, s := range []string{
		"", "a", "a/", "a/b", ".", "..", "\\a", " /a", "\x00/a", "\xff",
		"//", "///", "/a/", "/a/b/", "//a", "/a//b", "/a/b//", "/" + longest + "/",
		"/.", "/..", "/a/./b", "/a/../b", "/./a", "/../a", "/a/.", "/a/..", "/a b", "/a/\x00", "/a/\x7f/b", "/é", "/a\xff/b", "/ ",
	} {
		wantSplit(t, s, nil, api.ErrPath)
	}
	for _, s := range []string{"/" + tooLong, "/a/" + tooLong, "/" + tooLong + "/b", "/a/" + tooLong + "/b", "/" + strings.Repeat("é", 10), "/a/" + strings.Repeat("n", 252)} {
		wantSplit(t, s, nil, api.ErrLong)
	}
}

// 10.2: of two faults the one that stands first from the left; a slash that lacks ahead goes before both.
func TestSplitTwoFaults(t *testing.T) {
	for _, c := range []struct {
		s    string
		want api.Errno
	}{
		{"/" + tooLong + "/..", api.ErrLong},
		{"/../" + tooLong, api.ErrPath},
		{"/a/" + tooLong + "//b", api.ErrLong},
		{"/a//" + tooLong, api.ErrPath},
		{"//" + tooLong, api.ErrPath},
		{"/" + tooLong + "/", api.ErrLong},
		{"/" + tooLong + "//", api.ErrLong},
		{"/a b/" + tooLong, api.ErrPath},
		{"/" + tooLong + "/a b", api.ErrLong},
		{"/" + strings.Repeat(" ", 20), api.ErrLong},
		{tooLong, api.ErrPath},
		{tooLong + "/a", api.ErrPath},
		{"a/" + tooLong, api.ErrPath},
		{strings.Repeat("a", 255), api.ErrPath},
	} {
		wantSplit(t, c.s, nil, c.want)
	}
}

// 10.2: paths of each length up to the greatest and beyond it, of long names and of short ones.
func TestSplitLengths(t *testing.T) {
	for n := 2; n <= 300; n++ {
		for _, l := range [][]string{namesOf(n), shortNames(n)} {
			s := plain(l)
			if len(s) != n {
				t.Fatalf("a path of %d bytes; want %d", len(s), n)
			}
			if n <= 255 {
				wantSplit(t, s, l, api.OK)
			} else {
				wantSplit(t, s, nil, api.ErrLong)
			}
		}
	}
}

// 10.2: a path of more than 255 bytes is too long, whatever else is amiss; at 255 that is told.
func TestSplitLongAndWrong(t *testing.T) {
	for _, ahead := range []string{"", "a", "/", "//", "/..", "/a b", "/a/", "\xff"} {
		for _, fill := range []string{"/", "a", ".", "/.", "/a", " ", "\x00", "é"} {
			for _, n := range []int{256, 257, 300, 5000} {
				s := (ahead + strings.Repeat(fill, n))[:n]
				wantSplit(t, s, nil, api.ErrLong)
			}
		}
	}
	at := plain(namesOf(254))
	wantSplit(t, at+"/", nil, api.ErrPath)
	wantSplit(t, at+"/a", nil, api.ErrLong)
	wantSplit(t, at+"//", nil, api.ErrLong)
	wantSplit(t, strings.Repeat("/", 255), nil, api.ErrPath)
}

// 10.2, 10.5: every text of up to seven bytes of a few, and every row of up to three parts, against the chapter's words; Join of Split is the path.
func TestSplitAll(t *testing.T) {
	var all []string
	for _, l := range rows([]string{"/", "a", ".", " "}, 7) {
		all = append(all, strings.Join(l, ""))
	}
	for _, l := range rows(parts, 3) {
		all = append(all, plain(l), strings.Join(l, "/"))
	}
	for _, s := range all {
		want, wantError := splitOf(s)
		wantSplit(t, s, want, wantError)
		if l, e := path.Split(s); e == api.OK {
			wantJoin(t, l, s, api.OK)
		}
	}
}

// R3: a list that was handed out is the asker's own: what is done to it is not seen by others, nor does a name share memory with the path.
func TestSplitOwn(t *testing.T) {
	s := strings.Clone("/a/bc/d")
	first, _ := path.Split(s)
	second, _ := path.Split(s)
	if len(first) != 3 || len(second) != 3 {
		t.Fatalf("Split: %q, %q", first, second)
	}
	for _, name := range first {
		if within(name, s) {
			t.Errorf("the name %q shares memory with the path", name)
		}
	}
	for i := range first {
		first[i] = "x"
	}
	_ = append(first[:1], "y", "z", "w")
	if !slices.Equal(second, []string{"a", "bc", "d"}) {
		t.Errorf("the second list: %q", second)
	}
	wantSplit(t, s, []string{"a", "bc", "d"}, api.OK)
}

// within tells whether a text's memory lies in another one's.
func within(part, whole string) bool {
	at, from := uintptr(unsafe.Pointer(unsafe.StringData(part))), uintptr(unsafe.Pointer(unsafe.StringData(whole)))
	return at >= from && at < from+uintptr(len(whole))
}

// The chapter's example.
func TestSplitExample(t *testing.T) {
	wantSplit(t, "/a/b", []string{"a", "b"}, api.OK)
	wantSplit(t, "/", nil, api.OK)
	for _, s := range []string{"/a/", "a", "", "/a//b", "/.."} {
		wantSplit(t, s, nil, api.ErrPath)
	}
}
