package shelf_test

import (
	"slices"
	"strings"
	"testing"

	"grapnel/api"
	"grapnel/shelf"
)

// wrongBytes is 28 bytes each that are no entry.
func wrongBytes() []string {
	long, behind, numbers := zeros[:27], zeros[:20], zeros[:8]
	return []string{
		// A name of more bytes than may be.
		"\x14" + long, "\xff" + long, "\x14" + strings.Repeat("n", 27), strings.Repeat("\xff", 28),
		// Bytes behind a name: none, a short one, one of eighteen bytes; and at its field's end.
		"\x00a" + zeros[:26], "\x01ab" + zeros[:25], "\x12" + longest + numbers, "\x01a" + zeros[:17] + "x" + numbers,
		// Numbers without a name.
		behind + "\x01" + zeros[:7], behind + "\x00\x00\x00\x80" + zeros[:4], behind + zeros[:4] + "\x01\x00\x00\x00", long + "\x01",
	}
}

// with is a body whose bytes of one slot are others.
func with(body string, slot int, bytes string) string {
	return body[:28*slot] + bytes + body[28*slot+28:]
}

// 11.1: blocks as they may be.
func TestPage(t *testing.T) {
	for _, l := range pages() {
		wantPage(t, bodyOf(l), l, api.OK)
	}
	wantPage(t, zeros, make([]api.Entry, 16), api.OK)
}

// 11.1: bodies of each length but 448, of bytes 0, of entries that may be and of such that may not.
func TestPageLengths(t *testing.T) {
	long := bodyOf(append(sixteen(), sixteen()...))
	for n := range 897 {
		if n == 448 {
			continue
		}
		wantPage(t, strings.Repeat("\x00", n), nil, api.ErrArg)
		wantPage(t, long[:n], nil, api.ErrArg)
		wantPage(t, strings.Repeat("\xff", n), nil, api.ErrArg)
	}
	for _, n := range []int{0, 447, 449, 1 << 20} {
		wantPage(t, strings.Repeat("\x00", n), nil, api.ErrArg)
	}
}

// 11.1: an entry that is none at each place, among free slots and among names.
func TestPageWrong(t *testing.T) {
	for _, wrong := range wrongBytes() {
		if len(wrong) != 28 {
			t.Fatalf("%d bytes: %q", len(wrong), wrong)
		}
		for at := range 16 {
			wantPage(t, with(zeros, at, wrong), nil, api.ErrForm)
			wantPage(t, with(bodyOf(sixteen()), at, wrong), nil, api.ErrForm)
		}
	}
}

// 11.1: two entries that are none, at every two places.
func TestPageTwoWrong(t *testing.T) {
	for _, first := range wrongBytes() {
		for _, second := range wrongBytes() {
			for at := range 16 {
				for behind := at + 1; behind < 16; behind++ {
					wantPage(t, with(with(bodyOf(sixteen()), at, first), behind, second), nil, api.ErrForm)
				}
			}
		}
	}
}

// 11.1: slots as a block.
func TestBody(t *testing.T) {
	for _, l := range pages() {
		wantBody(t, l, bodyOf(l), api.OK)
	}
	wantBody(t, make([]api.Entry, 16), zeros, api.OK)
}

// 11.1: each number of slots but sixteen.
func TestBodyLengths(t *testing.T) {
	wantBody(t, nil, "", api.ErrArg)
	wantBody(t, []api.Entry{}, "", api.ErrArg)
	all := append(sixteen(), sixteen()...)
	for n := range 33 {
		if n != 16 {
			wantBody(t, make([]api.Entry, n), "", api.ErrArg)
			wantBody(t, all[:n], "", api.ErrArg)
		}
	}
	wantBody(t, all[:16], bodyOf(sixteen()), api.OK)
}

// 11.1: an entry that has an error at each place.
func TestBodyWrong(t *testing.T) {
	for _, wrong := range wrongEntries {
		for at := range 16 {
			one, another := make([]api.Entry, 16), sixteen()
			one[at], another[at] = wrong.x, wrong.x
			wantBody(t, one, "", wrong.e)
			wantBody(t, another, "", wrong.e)
		}
	}
}

// 11.1: of two entries that have errors the first one's is told, at every two places.
func TestBodyTwoWrong(t *testing.T) {
	for _, first := range wrongEntries {
		for _, second := range wrongEntries {
			for at := range 16 {
				for behind := at + 1; behind < 16; behind++ {
					l := sixteen()
					l[at], l[behind] = first.x, second.x
					wantBody(t, l, "", first.e)
				}
			}
		}
	}
}

// 11.1: not sixteen, and an entry that has an error: the number of slots is told.
func TestBodyBothFaults(t *testing.T) {
	for _, wrong := range wrongEntries {
		for _, n := range []int{1, 2, 15, 17, 32} {
			for at := range n {
				l := make([]api.Entry, n)
				l[at] = wrong.x
				wantBody(t, l, "", api.ErrArg)
			}
		}
	}
}

// 11.4: Page of Body is the slots, Body of Page is the block.
func TestPageAndBody(t *testing.T) {
	for _, l := range pages() {
		body, e := shelf.Body(l)
		if e != api.OK {
			t.Fatalf("Body(%v): error %d", l, e)
		}
		wantPage(t, body, l, api.OK)
	}
	for _, at := range []int{0, 7, 15} {
		for place := range 28 {
			for b := range 256 {
				for _, from := range []string{zeros, bodyOf(sixteen())} {
					changed := []byte(from)
					changed[28*at+place] = byte(b)
					if l, e := shelf.Page(string(changed)); e == api.OK {
						wantBody(t, l, string(changed), api.OK)
					}
				}
			}
		}
	}
}

// R3: slots that were handed out are the asker's own, and no name shares memory with the body.
func TestPageOwn(t *testing.T) {
	body := strings.Clone(bodyOf(sixteen()))
	first, _ := shelf.Page(body)
	second, _ := shelf.Page(body)
	if len(first) != 16 || len(second) != 16 {
		t.Fatalf("Page: %v, %v", first, second)
	}
	for i, x := range first {
		if sameMemory(x.Name, body) {
			t.Errorf("the name %q shares memory with the body", x.Name)
		}
		first[i] = api.Entry{Name: "x", Ino: 1, Gen: 1}
	}
	_ = append(first[:1], entries...)
	if !slices.Equal(second, sixteen()) {
		t.Errorf("the second list: %v", second)
	}
	wantPage(t, body, sixteen(), api.OK)
}
