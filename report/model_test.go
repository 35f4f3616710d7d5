package report_test

import (
	"grapnel/api"
)

// The chapter's words, written out once more: slow, and one by one.

// field is a number of a report, and how many bytes it has.
type field struct{ n, width int }

func headFields(r api.Report) []field {
	return []field{{r.Volume, 6}, {r.Epoch, 6}, {r.Written, 4}, {len(r.Findings), 4}}
}

func findingFields(f api.Finding) []field {
	return []field{{f.Code, 2}, {f.A, 4}, {f.B, 4}, {f.C, 4}}
}

// behind tells whether x comes behind y: by Code, then A, B, C.
func behind(x, y api.Finding) bool {
	if x.Code != y.Code {
		return x.Code > y.Code
	}
	if x.A != y.A {
		return x.A > y.A
	}
	if x.B != y.B {
		return x.B > y.B
	}
	return x.C > y.C
}

// rise tells whether every finding comes behind every one ahead of it.
func rise(l []api.Finding) bool {
	for i := range l {
		if i > 0 && !behind(l[i], l[i-1]) {
			return false
		}
	}
	return true
}

// bytesOf is Bytes (16.1).
func bytesOf(r api.Report) (string, api.Errno) {
	if !rise(r.Findings) {
		return "", api.ErrForm
	}
	fields := headFields(r)
	for _, f := range r.Findings {
		fields = append(fields, findingFields(f)...)
	}
	var b []byte
	for _, f := range fields {
		if f.n < 0 || f.n >= 1<<(8*f.width) {
			return "", api.ErrRange
		}
		b = append(b, number(f.n, f.width)...)
	}
	return string(b), api.OK
}

// reportOf is Of (16.1).
func reportOf(s string) (api.Report, api.Errno) {
	at := 0
	next := func(width int) int {
		n := 0
		for i := range width {
			n += int(s[at+i]) << (8 * i)
		}
		at += width
		return n
	}
	if len(s) < 20 {
		return api.Report{}, api.ErrShort
	}
	r := api.Report{Volume: next(6), Epoch: next(6), Written: next(4)}
	for range next(4) {
		if len(s)-at < 14 {
			return api.Report{}, api.ErrShort
		}
		r.Findings = append(r.Findings, api.Finding{Code: next(2), A: next(4), B: next(4), C: next(4)})
	}
	if at < len(s) {
		return api.Report{}, api.ErrLong
	}
	if !rise(r.Findings) {
		return api.Report{}, api.ErrForm
	}
	return r, api.OK
}
