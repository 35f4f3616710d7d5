package report

import (
	"grapnel/api"
	"grapnel/pack"
)

// row is four numbers that stand one behind the other: what is ahead of a report's findings, and each finding.
type row [4]int

const (
	headBytes    = 20
	findingBytes = 14
)

// How many bytes each number of a row has.
var (
	headWidths    = row{6, 6, 4, 4}
	findingWidths = row{2, 4, 4, 4}
)

func rowsOf(l []api.Finding) []row {
	rows := make([]row, len(l))
	for i, f := range l {
		rows[i] = row{f.Code, f.A, f.B, f.C}
	}
	return rows
}

func findingsOf(rows []row) []api.Finding {
	var l []api.Finding
	for _, x := range rows {
		l = append(l, api.Finding{Code: x[0], A: x[1], B: x[2], C: x[3]})
	}
	return l
}

// put lays a row's numbers behind a text.
func put(text []byte, numbers, widths row) ([]byte, api.Errno) {
	for i, n := range numbers {
		s, e := pack.Put(n, widths[i])
		if e != api.OK {
			return nil, e
		}
		text = append(text, s...)
	}
	return text, api.OK
}

// get is the row at a text's beginning, which is known to be long enough.
func get(s string, widths row) row {
	var numbers row
	at := 0
	for i, w := range widths {
		numbers[i], _ = pack.Get(s, at, w)
		at += w
	}
	return numbers
}
