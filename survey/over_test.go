package survey_test

import (
	"math"
	"math/rand"
	"slices"
	"testing"
	"unsafe"

	"grapnel/api"
	"grapnel/survey"
)

// shares tells whether a text's memory lies in another one's.
func shares(part, whole string) bool {
	if part == "" || whole == "" {
		return false
	}
	at, from := uintptr(unsafe.Pointer(unsafe.StringData(part))), uintptr(unsafe.Pointer(unsafe.StringData(whole)))
	return at >= from && at < from+uintptr(len(whole))
}

// image is one of blocks that are not alike, some of which can't be read.
func image(raws, masks int) api.Image {
	var im api.Image
	for i := range raws {
		im.Raws = append(im.Raws, filled(i, 512))
	}
	for i := range masks {
		im.Masks = append(im.Masks, i%3*100)
	}
	return im
}

func wantImage(t *testing.T, what string, got, must api.Image) {
	t.Helper()
	same(t, what+": Raws", got.Raws, must.Raws)
	same(t, what+": Masks", got.Masks, must.Masks)
}

// 14.1: each block stands at its address, all of its sectors readable, the last one of several; all others stay.
func TestOver(t *testing.T) {
	a, b := filled(70, 512), filled(71, 512)
	for _, c := range []struct {
		name string
		im   api.Image
		ws   []api.Write
		must func(im *api.Image)
	}{
		{"nothing", image(5, 5), nil, func(im *api.Image) {}},
		{"the first", image(5, 5), []api.Write{{Address: 0, Raw: a}}, func(im *api.Image) { im.Raws[0], im.Masks[0] = a, 0 }},
		{"the last, of a number", image(5, 5), []api.Write{{Address: 4, Raw: a}}, func(im *api.Image) { im.Raws[4], im.Masks[4] = a, 0 }},
		{"two", image(5, 5), []api.Write{{Address: 4, Raw: a}, {Address: 1, Raw: b}}, func(im *api.Image) { im.Raws[4], im.Masks[4], im.Raws[1], im.Masks[1] = a, 0, b, 0 }},
		{"in order", image(5, 5), []api.Write{{Address: 2, Raw: a}, {Address: 2, Raw: b}}, func(im *api.Image) { im.Raws[2], im.Masks[2] = b, 0 }},
		{"in the other order", image(5, 5), []api.Write{{Address: 2, Raw: b}, {Address: 2, Raw: a}}, func(im *api.Image) { im.Raws[2], im.Masks[2] = a, 0 }},
		{"bytes as they are", image(5, 5), []api.Write{{Address: 2, Raw: ""}, {Address: 1, Raw: "x"}, {Address: 4, Raw: a + b}}, func(im *api.Image) {
			im.Raws[2], im.Masks[2], im.Raws[1], im.Masks[1], im.Raws[4], im.Masks[4] = "", 0, "x", 0, a+b, 0
		}},
		{"beyond", image(5, 5), []api.Write{{Address: 5, Raw: a}, {Address: -1, Raw: a}, {Address: math.MaxInt, Raw: a}, {Address: math.MinInt, Raw: a}, {Address: 1 << 32, Raw: a}}, func(im *api.Image) {}},
		{"beyond, and one", image(5, 5), []api.Write{{Address: 5, Raw: a}, {Address: 1, Raw: a}, {Address: 6, Raw: a}}, func(im *api.Image) { im.Raws[1], im.Masks[1] = a, 0 }},
		{"no Raws", image(2, 5), []api.Write{{Address: 1, Raw: a}, {Address: 2, Raw: b}, {Address: 4, Raw: b}}, func(im *api.Image) { im.Raws[1], im.Masks[1] = a, 0 }},
		{"no Masks", image(5, 2), []api.Write{{Address: 1, Raw: a}, {Address: 2, Raw: b}, {Address: 4, Raw: b}}, func(im *api.Image) { im.Raws[1], im.Masks[1] = a, 0 }},
		{"no image", api.Image{}, []api.Write{{Address: 0, Raw: a}}, func(im *api.Image) {}},
		{"only Raws", image(3, 0), []api.Write{{Address: 0, Raw: a}}, func(im *api.Image) {}},
		{"only Masks", image(0, 3), []api.Write{{Address: 0, Raw: a}}, func(im *api.Image) {}},
	} {
		must := api.Image{Raws: slices.Clone(c.im.Raws), Masks: slices.Clone(c.im.Masks)}
		was := api.Image{Raws: slices.Clone(c.im.Raws), Masks: slices.Clone(c.im.Masks)}
		c.must(&must)
		wantImage(t, c.name, survey.Over(c.im, c.ws), must)
		wantImage(t, c.name+", handed in", c.im, was)
	}
}

// 14.1: rows of blocks by chance.
func TestOverByChance(t *testing.T) {
	r := rand.New(rand.NewSource(1))
	for range 300 {
		im := image(r.Intn(8), r.Intn(8))
		must := api.Image{Raws: slices.Clone(im.Raws), Masks: slices.Clone(im.Masks)}
		var ws []api.Write
		for range r.Intn(8) {
			w := api.Write{Address: r.Intn(10) - 1, Raw: filled(r.Intn(99), r.Intn(600))}
			ws = append(ws, w)
			if w.Address >= 0 && w.Address < len(im.Raws) && w.Address < len(im.Masks) {
				must.Raws[w.Address], must.Masks[w.Address] = w.Raw, 0
			}
		}
		wantImage(t, "by chance", survey.Over(im, ws), must)
	}
}

// R3: what is handed in stays, also behind its end; what is answered shares nothing with it.
func TestOverOwn(t *testing.T) {
	im := image(9, 9)
	im.Raws, im.Masks = im.Raws[:5], im.Masks[:5]
	ws := append([]api.Write{{Address: 1, Raw: filled(70, 512)}, {Address: 5, Raw: filled(71, 512)}}, api.Write{Address: 99})[:2]
	over := survey.Over(im, ws)
	for i, raw := range over.Raws {
		if shares(raw, im.Raws[i]) || shares(raw, ws[0].Raw) {
			t.Fatalf("the block %d is one that was handed in", i)
		}
	}
	over.Raws, over.Masks = append(over.Raws, "behind"), append(over.Masks, 5)
	clear(over.Raws)
	clear(over.Masks)
	wantImage(t, "handed in", api.Image{Raws: im.Raws[:9], Masks: im.Masks[:9]}, image(9, 9))
	same(t, "handed in", ws[:3], []api.Write{{Address: 1, Raw: filled(70, 512)}, {Address: 5, Raw: filled(71, 512)}, {Address: 99}})
}

// 14.3: by Code, A, B, C, each once.
func TestSort(t *testing.T) {
	f := func(code, a, b, c int) api.Finding { return api.Finding{Code: code, A: a, B: b, C: c} }
	for _, c := range []struct{ l, must []api.Finding }{
		{nil, nil},
		{[]api.Finding{}, nil},
		{[]api.Finding{f(3, 2, 1, 0)}, []api.Finding{f(3, 2, 1, 0)}},
		{[]api.Finding{f(2, 0, 0, 0), f(1, 0, 0, 0), f(2, 0, 0, 0)}, []api.Finding{f(1, 0, 0, 0), f(2, 0, 0, 0)}},
		{[]api.Finding{f(1, 1, 1, 1), f(1, 1, 1, 1), f(1, 1, 1, 1)}, []api.Finding{f(1, 1, 1, 1)}},
		{[]api.Finding{f(1, 2, 3, 4), f(1, 2, 3, 3), f(1, 2, 2, 9), f(1, 1, 9, 9), f(0, 9, 9, 9)}, []api.Finding{f(0, 9, 9, 9), f(1, 1, 9, 9), f(1, 2, 2, 9), f(1, 2, 3, 3), f(1, 2, 3, 4)}},
		{[]api.Finding{f(10, 0, 0, 0), f(9, 10, 0, 0), f(9, 9, 0, 0)}, []api.Finding{f(9, 9, 0, 0), f(9, 10, 0, 0), f(10, 0, 0, 0)}},
		{[]api.Finding{f(math.MaxInt, 0, 0, 0), f(math.MinInt, 0, 0, 0), f(-1, math.MaxInt, 0, 0), f(-1, math.MinInt, 0, 0)}, []api.Finding{f(math.MinInt, 0, 0, 0), f(-1, math.MinInt, 0, 0), f(-1, math.MaxInt, 0, 0), f(math.MaxInt, 0, 0, 0)}},
		{[]api.Finding{{}, f(-1, 0, 0, 0), {}, f(0, 0, 0, -1)}, []api.Finding{f(-1, 0, 0, 0), f(0, 0, 0, -1), {}}},
	} {
		same(t, "Sort", survey.Sort(c.l), c.must)
	}
}

// 14.3: all lists of few findings, and long ones, against a list that is put in order by hand; what is handed in stays.
func TestSortByChance(t *testing.T) {
	r := rand.New(rand.NewSource(3))
	for n := range 400 {
		var l []api.Finding
		for range r.Intn(n%40 + 1) {
			l = append(l, api.Finding{Code: r.Intn(3), A: r.Intn(3) - 1, B: r.Intn(3), C: r.Intn(3)})
		}
		l = append(l, api.Finding{Code: 99})[:len(l)]
		was := slices.Clone(l[:len(l)+1])
		var must []api.Finding
		for code := range 3 {
			for a := -1; a < 2; a++ {
				for b := range 3 {
					for c := range 3 {
						if x := (api.Finding{Code: code, A: a, B: b, C: c}); slices.Contains(l, x) {
							must = append(must, x)
						}
					}
				}
			}
		}
		got := survey.Sort(l)
		same(t, "Sort", got, must)
		clear(got)
		_ = append(got, api.Finding{Code: 98})
		same(t, "handed in", l[:len(l)+1], was)
	}
}
