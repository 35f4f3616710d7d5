package report_test

import (
	"fmt"
	"math"
	"math/rand"
	"slices"
	"strings"
	"testing"

	"grapnel/api"
	"grapnel/report"
)

// 16.1: the fields one behind the other, the lowest byte first.
func TestBytesByHand(t *testing.T) {
	s, e := report.Bytes(some()[5])
	wantText(t, "Bytes", s, e, "\x01\x02\x03\x04\x05\x06\x11\x12\x13\x14\x15\x16\x21\x22\x23\x24\x01\x00\x00\x00"+"\x31\x32\x41\x42\x43\x44\x51\x52\x53\x54\x61\x62\x63\x64", api.OK)
	r, e := report.Of(s)
	wantReport(t, "Of", r, e, some()[5], api.OK)
}

// 16.1, 16.3: no findings, one, and many.
func TestBytesAndOf(t *testing.T) {
	for i, x := range some() {
		what := fmt.Sprintf("the report %d", i)
		wantBytes(t, what, x)
		s, e := report.Bytes(x)
		want(t, what, e, api.OK)
		if len(s) != 20+14*len(x.Findings) {
			t.Fatalf("%s: %d bytes", what, len(s))
		}
		wantOf(t, what, s)
		r, e := report.Of(s)
		wantReport(t, "Of of Bytes of "+what, r, e, x, api.OK)
	}
}

// numbers are those of a report and of the one finding among its findings at a place, each with its width.
func numbers(r *api.Report, at int) []struct {
	name  string
	n     *int
	width int
} {
	f := &r.Findings[at]
	return []struct {
		name  string
		n     *int
		width int
	}{
		{"Volume", &r.Volume, 6}, {"Epoch", &r.Epoch, 6}, {"Written", &r.Written, 4},
		{"Code", &f.Code, 2}, {"A", &f.A, 4}, {"B", &f.B, 4}, {"C", &f.C, 4},
	}
}

// 16.1: each number by itself, at its bounds and beyond them.
func TestBytesRoom(t *testing.T) {
	for i := range 7 {
		width := numbers(&api.Report{Findings: many(1)}, 0)[i].width
		beyond := 1 << (8 * width)
		for _, c := range []struct {
			n int
			e api.Errno
		}{
			{0, api.OK}, {1, api.OK}, {255, api.OK}, {beyond / 256, api.OK}, {beyond - 1, api.OK},
			{beyond, api.ErrRange}, {beyond + 1, api.ErrRange}, {256 * beyond, api.ErrRange}, {math.MaxInt, api.ErrRange},
			{-1, api.ErrRange}, {-beyond, api.ErrRange}, {1 - beyond, api.ErrRange}, {math.MinInt, api.ErrRange},
		} {
			r := api.Report{Volume: 7, Epoch: 8, Written: 9, Findings: []api.Finding{finding(1, 2, 3, 4)}}
			x := numbers(&r, 0)[i]
			*x.n = c.n
			what := fmt.Sprintf("%s %d", x.name, c.n)
			s, e := report.Bytes(r)
			want(t, what, e, c.e)
			wantBytes(t, what, r)
			if e == api.OK {
				back, e := report.Of(s)
				wantReport(t, what, back, e, r, api.OK)
			}
		}
	}
}

// 16.1: a number without room is one wherever its finding stands, and no number stands in for another one's room.
func TestBytesRoomAnywhere(t *testing.T) {
	for at := range 5 {
		for i := range 4 {
			r := api.Report{Volume: 7, Findings: []api.Finding{finding(1, 1, 1, 1), finding(2, 1, 1, 1), finding(3, 1, 1, 1), finding(4, 1, 1, 1), finding(5, 1, 1, 1)}}
			x := numbers(&r, at)[3+i]
			// Where it is a Code the findings rise but if it is the last one; A, B and C rise as they are.
			*x.n = 1 << (8 * x.width)
			must := api.ErrRange
			if x.name == "Code" && at < 4 {
				must = api.ErrForm
			}
			s, e := report.Bytes(r)
			wantText(t, fmt.Sprintf("%s of the finding %d", x.name, at), s, e, "", must)
			wantBytes(t, x.name, r)
		}
	}
}

// 16.1: findings rise by Code, then A, B, C: all pairs of few numbers.
func TestPairs(t *testing.T) {
	var all []api.Finding
	for n := range 81 {
		all = append(all, finding(n/27, n/9%3, n/3%3, n%3))
	}
	for i, x := range all {
		for k, y := range all {
			r := api.Report{Volume: 7, Findings: []api.Finding{x, y}}
			must := api.ErrForm
			if i < k {
				must = api.OK
			}
			what := fmt.Sprintf("%v, %v", x, y)
			s, e := report.Bytes(r)
			want(t, what, e, must)
			wantBytes(t, what, r)
			wantOf(t, what, raw(r))
			if e == api.OK {
				same(t, what, s, raw(r))
			}
		}
	}
}

// raw is a report's fields as bytes, whether its findings rise or not.
func raw(r api.Report) string {
	var b strings.Builder
	for _, f := range headFields(r) {
		b.WriteString(number(f.n, f.width))
	}
	for _, x := range r.Findings {
		for _, f := range findingFields(x) {
			b.WriteString(number(f.n, f.width))
		}
	}
	return b.String()
}

// 16.1: numbers are held against each other as numbers, the whole of them, and not as their bytes.
func TestPairsAsNumbers(t *testing.T) {
	for _, c := range []struct{ x, y api.Finding }{
		{finding(0x00ff, 0, 0, 0), finding(0x0100, 0, 0, 0)},
		{finding(1, 0x000000ff, 0, 0), finding(1, 0x00000100, 0, 0)},
		{finding(1, 1, 0x00ffffff, 0), finding(1, 1, 0x01000000, 0)},
		{finding(1, 1, 1, 0x7fffffff), finding(1, 1, 1, 0x80000000)},
		{finding(1, 0x7fffffff, 1<<32-1, 1<<32-1), finding(1, 0x80000000, 0, 0)},
		{finding(9, 1<<32-1, 1<<32-1, 1<<32-1), finding(10, 0, 0, 0)},
		{finding(1<<15-1, 5, 5, 5), finding(1<<15, 5, 5, 5)},
	} {
		up, down := api.Report{Findings: []api.Finding{c.x, c.y}}, api.Report{Findings: []api.Finding{c.y, c.x}}
		s, e := report.Bytes(up)
		wantText(t, "up", s, e, raw(up), api.OK)
		r, e := report.Of(raw(up))
		wantReport(t, "up", r, e, up, api.OK)
		s, e = report.Bytes(down)
		wantText(t, "down", s, e, "", api.ErrForm)
		r, e = report.Of(raw(down))
		wantReport(t, "down", r, e, api.Report{}, api.ErrForm)
	}
}

// 16.1: one that is out of order is found wherever it stands: the two that are one, or stand the wrong way round.
func TestOutOfOrderAnywhere(t *testing.T) {
	for n := 2; n < 12; n++ {
		for at := range n - 1 {
			twice, turned := many(n), many(n)
			twice[at] = twice[at+1]
			turned[at], turned[at+1] = turned[at+1], turned[at]
			for _, l := range [][]api.Finding{twice, turned} {
				r := api.Report{Volume: 7, Epoch: 1, Findings: l}
				s, e := report.Bytes(r)
				wantText(t, "Bytes", s, e, "", api.ErrForm)
				back, e := report.Of(raw(r))
				wantReport(t, "Of", back, e, api.Report{}, api.ErrForm)
			}
		}
	}
	apart := append(many(9), many(1)...)
	s, e := report.Bytes(api.Report{Findings: apart})
	wantText(t, "Bytes of one that stands twice, far apart", s, e, "", api.ErrForm)
}

// 16.1: findings that do not rise are told ahead of a number without room, wherever that stands.
func TestBytesWhichErrorFirst(t *testing.T) {
	for _, n := range []int{-1, 1 << 48, math.MaxInt, math.MinInt} {
		twice := []api.Finding{finding(1, 2, 3, 4), finding(1, 2, 3, 4)}
		for _, r := range []api.Report{
			{Volume: n, Findings: twice},
			{Epoch: n, Findings: twice},
			{Written: n, Findings: twice},
			{Findings: []api.Finding{finding(n, 0, 0, 0), finding(n, 0, 0, 0)}},
			{Findings: []api.Finding{finding(1, n, 0, 0), finding(1, n, 0, 0)}},
			{Findings: []api.Finding{finding(1, 1, n, 2), finding(1, 1, n, 1)}},
			{Findings: []api.Finding{finding(1, 1, 1, n), finding(0, 0, 0, n)}},
			{Findings: []api.Finding{finding(1, n, 0, 0), finding(2, 0, 0, 0), finding(2, 0, 0, 0)}},
		} {
			s, e := report.Bytes(r)
			wantText(t, "neither", s, e, "", api.ErrForm)
		}
		for _, r := range []api.Report{
			{Volume: n},
			{Volume: n, Findings: []api.Finding{finding(1, 0, 0, 0), finding(2, 0, 0, 0)}},
			{Findings: []api.Finding{finding(1, 0, 0, n), finding(2, 0, 0, n)}},
			{Findings: []api.Finding{finding(1, 0, n, n), finding(2, n, 0, 0)}},
		} {
			s, e := report.Bytes(r)
			wantText(t, "no room", s, e, "", api.ErrRange)
		}
	}
	// Numbers below 0 rise, too.
	for _, l := range [][]api.Finding{
		{finding(-1, 0, 0, 0), finding(0, 0, 0, 0)},
		{finding(math.MinInt, 0, 0, 0), finding(math.MaxInt, 0, 0, 0)},
		{finding(1, math.MinInt, 0, 0), finding(1, math.MaxInt, 0, 0)},
		{finding(1, -2, 0, 0), finding(1, -1, 0, 0)},
	} {
		s, e := report.Bytes(api.Report{Findings: l})
		wantText(t, "below 0, rising", s, e, "", api.ErrRange)
		slices.Reverse(l)
		s, e = report.Bytes(api.Report{Findings: l})
		wantText(t, "below 0, falling", s, e, "", api.ErrForm)
	}
}

// 16.1: bytes of every length around a report's.
func TestOfLengths(t *testing.T) {
	for n := range 5 {
		r := api.Report{Volume: 7, Epoch: 1, Written: 2, Findings: many(n)}
		whole := raw(r)
		for have := range len(whole) + 30 {
			s := (whole + strings.Repeat("\x00", 30))[:have]
			must, mustErr := api.Report{}, api.ErrShort
			if have == len(whole) {
				must, mustErr = r, api.OK
			} else if have > len(whole) {
				mustErr = api.ErrLong
			}
			back, e := report.Of(s)
			wantReport(t, fmt.Sprintf("%d findings, %d bytes of %d", n, have, len(whole)), back, e, must, mustErr)
			wantOf(t, "the same", s)
		}
	}
}

// 16.1: lengths are looked at ahead of whether findings rise.
func TestOfWhichErrorFirst(t *testing.T) {
	twice := raw(api.Report{Findings: []api.Finding{finding(1, 2, 3, 4), finding(1, 2, 3, 4)}})
	for _, c := range []struct {
		s string
		e api.Errno
	}{
		{twice, api.ErrForm}, {twice[:47], api.ErrShort}, {twice[:34], api.ErrShort}, {twice + "\x00", api.ErrLong}, {twice + strings.Repeat("\x00", 14), api.ErrLong},
		{raw(api.Report{Findings: many(2)})[:20] + twice[20:] + "x", api.ErrLong},
	} {
		r, e := report.Of(c.s)
		wantReport(t, "Of", r, e, api.Report{}, c.e)
	}
}

// 16.1, P1: counts that are far greater than the bytes, up to the greatest that four bytes tell.
func TestOfGreatCounts(t *testing.T) {
	for _, n := range []int{1, 2, 15, 255, 256, 1 << 16, 1 << 24, 306783378, 306783379, 613566757, 1<<31 - 1, 1 << 31, 1<<31 + 1, 1<<32 - 2, 1<<32 - 1} {
		for _, rest := range []int{0, 1, 13, 14, 27, 28, 200} {
			s := strings.Repeat("\x00", 16) + number(n, 4) + strings.Repeat("\x00", rest)
			if 14*n <= rest {
				continue
			}
			r, e := report.Of(s)
			wantReport(t, fmt.Sprintf("the count %d and %d bytes", n, rest), r, e, api.Report{}, api.ErrShort)
		}
	}
	// 14 * n has just the bytes that are there in its lowest 32 bits.
	for _, c := range []struct{ n, rest int }{{1 << 31, 0}, {1<<31 + 1, 14}, {613566757, 14*613566757 - 1<<33}, {306783379, 14*306783379 - 1<<32}} {
		s := strings.Repeat("\x00", 16) + number(c.n, 4) + strings.Repeat("\x00", c.rest)
		r, e := report.Of(s)
		wantReport(t, "a product that would wrap", r, e, api.Report{}, api.ErrShort)
	}
}

// 16.1, 16.3: reports by chance, and such with one number bent.
func TestReportsByChance(t *testing.T) {
	r := rand.New(rand.NewSource(1))
	for range 4000 {
		x := drawn(r)
		s, e := report.Bytes(x)
		want(t, "Bytes", e, api.OK)
		same(t, "Bytes", s, raw(x))
		back, e := report.Of(s)
		wantReport(t, "Of of Bytes", back, e, x, api.OK)
		if len(x.Findings) == 0 {
			continue
		}
		for range 4 {
			all := numbers(&x, r.Intn(len(x.Findings)))
			n := all[r.Intn(len(all))].n
			*n += []int{-1, 1, 1 << 16, 1 << 32, -1 << 32}[r.Intn(5)]
			wantBytes(t, "a bent report", x)
		}
		r.Shuffle(len(x.Findings), func(i, k int) { x.Findings[i], x.Findings[k] = x.Findings[k], x.Findings[i] })
		wantBytes(t, "a shuffled report", x)
	}
}

// 16.1, 16.3: what Of takes has just those Bytes: bytes by chance, most of them near a report's.
func TestBytesByChance(t *testing.T) {
	r := rand.New(rand.NewSource(2))
	taken := 0
	for range 20000 {
		b := []byte(raw(drawn(r)))
		switch r.Intn(4) {
		case 0:
			b[r.Intn(len(b))] ^= byte(1 << r.Intn(8))
		case 1:
			b = b[:r.Intn(len(b)+1)]
		case 2:
			for i := range b {
				b[i] = byte(r.Intn(256))
			}
			copy(b[16:20], number(r.Intn(4), 4))
		}
		s := string(b)
		wantOf(t, "bytes by chance", s)
		x, e := report.Of(s)
		if e != api.OK {
			continue
		}
		taken++
		again, e := report.Bytes(x)
		wantText(t, "Bytes of Of", again, e, s, api.OK)
	}
	if taken < 1000 || taken > 19000 {
		t.Fatalf("Of took %d", taken)
	}
}

// R3: what is handed in stays as it is, also behind the list's end.
func TestHandedInStays(t *testing.T) {
	for _, l := range [][]api.Finding{many(5), {finding(2, 0, 0, 0), finding(1, 0, 0, 0)}, {finding(-1, 0, 0, 0)}} {
		room := append(slices.Clone(l), finding(99, 9, 9, 9), finding(98, 9, 9, 9))
		was := slices.Clone(room)
		s, _ := report.Bytes(api.Report{Volume: 7, Findings: room[:len(l)]})
		same(t, "handed in", room, was)
		clear(room)
		must, _ := bytesOf(api.Report{Volume: 7, Findings: was[:len(l)]})
		same(t, "Bytes, when what was handed in is another one", s, must)
	}
}

// R3, R4: a list that was handed out is the asker's own: whatever becomes of it, Of says the same again.
func TestHandedOutIsOwn(t *testing.T) {
	for n := range 9 {
		r := api.Report{Volume: 7, Epoch: 1, Written: 2, Findings: many(n)}
		s := raw(r)
		a, _ := report.Of(s)
		b, _ := report.Of(s)
		clear(a.Findings[:cap(a.Findings)])
		_ = append(a.Findings, finding(99, 9, 9, 9))
		sameReport(t, "the other one", b, r)
		c, e := report.Of(s)
		wantReport(t, "once more", c, e, r, api.OK)
	}
}

// R3: nil and the empty list are the same, and of no findings none are told.
func TestNoFindings(t *testing.T) {
	a, e := report.Bytes(api.Report{Volume: 7, Epoch: 1})
	b, f := report.Bytes(api.Report{Volume: 7, Epoch: 1, Findings: []api.Finding{}})
	wantText(t, "Bytes", a, e, b, f)
	r, e := report.Of(a)
	if e != api.OK || len(r.Findings) != 0 {
		t.Fatalf("Of: %v, error %d", r, e)
	}
}
