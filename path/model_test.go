package path_test

import (
	"slices"
	"strings"
	"testing"

	"grapnel/api"
	"grapnel/path"
)

// parts is what stands in a path or in a list of names, as it may be and as it may not.
var parts = []string{
	"", "a", "b", "~", "!", "...", ".a", "a.", "a..b", strings.Repeat("n", 18), strings.Repeat("n", 19), strings.Repeat(".", 19),
	".", "..", " ", "a b", "\x00", "a\x00", "\x7f", "\x80", "\xff", "é", "a\xc3", "\ufffd", strings.Repeat("n", 18) + " ",
	strings.Repeat("n", 20), strings.Repeat(" ", 20), strings.Repeat("é", 10), strings.Repeat("n", 300),
}

// nameError is Name as the chapter's words say it, byte by byte.
func nameError(s string) api.Errno {
	if len(s) >= 20 {
		return 4
	}
	if s == "" || s == "." || s == ".." {
		return 40
	}
	for _, b := range []byte(s) {
		if b <= 32 || b >= 127 || b == 47 {
			return 40
		}
	}
	return 0
}

// splitOf is Split as the chapter's words say it: a name ends where a slash or the path's end stands.
func splitOf(s string) ([]string, api.Errno) {
	if len(s) >= 256 {
		return nil, 4
	}
	if s == "" || s[0] != '/' {
		return nil, 40
	}
	var names []string
	for from, at := 1, 1; at <= len(s) && s != "/"; at++ {
		if at < len(s) && s[at] != '/' {
			continue
		}
		if e := nameError(s[from:at]); e != 0 {
			return nil, e
		}
		names = append(names, s[from:at])
		from = at + 1
	}
	return names, 0
}

// joinOf is Join as the chapter's words say it.
func joinOf(l []string) (string, api.Errno) {
	s := ""
	for _, name := range l {
		if e := nameError(name); e != 0 {
			return "", e
		}
		if s += "/" + name; len(s) >= 256 {
			return "", 4
		}
	}
	if s == "" {
		return "/", 0
	}
	return s, 0
}

func wantSplit(t *testing.T, s string, want []string, wantError api.Errno) {
	t.Helper()
	if l, e := path.Split(s); !slices.Equal(l, want) || e != wantError {
		t.Errorf("Split(%q): %q, error %d; want %q, error %d", s, l, e, want, wantError)
	}
}

func wantJoin(t *testing.T, l []string, want string, wantError api.Errno) {
	t.Helper()
	if s, e := path.Join(l); s != want || e != wantError {
		t.Errorf("Join(%q): %q, error %d; want %q, error %d", l, s, e, want, wantError)
	}
}

// rows is every list of at most so many of these.
func rows(of []string, most int) [][]string {
	all := [][]string{nil}
	for from := 0; most > 0; most-- {
		to := len(all)
		for _, l := range all[from:to] {
			for _, s := range of {
				all = append(all, append(slices.Clone(l), s))
			}
		}
		from = to
	}
	return all
}

// namesOf is names whose path has so many bytes: as many of the greatest length as go in, and a rest.
func namesOf(bytes int) []string {
	var l []string
	for bytes > 21 {
		l = append(l, strings.Repeat("n", 19))
		bytes -= 20
	}
	if bytes == 21 { // a slash alone would be left
		l = append(l, strings.Repeat("m", 9))
		bytes -= 10
	}
	return append(l, strings.Repeat("k", bytes-1))
}

// shortNames is names whose path has so many bytes: of one byte each, but for the last, which has two if the bytes are odd.
func shortNames(bytes int) []string {
	l := slices.Repeat([]string{"s"}, bytes/2)
	if bytes%2 == 1 {
		l[len(l)-1] = "st"
	}
	return l
}

// plain is the path of names, whatever they are.
func plain(l []string) string {
	s := ""
	for _, name := range l {
		s += "/" + name
	}
	return s
}
