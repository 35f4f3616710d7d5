package survey

import (
	"strings"

	"grapnel/api"
	"grapnel/shelf"
)

// id is what a block of the file system is, beside where it stands.
type id struct{ kind, ino, gen, index int }

// idOf is what a head says a block is.
func idOf(h api.Head) id { return id{kind: h.Kind, ino: h.Ino, gen: h.Gen, index: h.Index} }

// judge is a verdict on the way.
type judge struct {
	evidence api.Evidence
	layout   api.Layout
	nodes    []*node // the inode i at i - 1
	torn     []torn  // in the order in which they were found
	had      []bool  // of each address whether it is used
	findings []api.Finding
}

// newJudge is a verdict of which nothing is known but what is always used.
func newJudge(x api.Evidence, l api.Layout) *judge {
	j := &judge{evidence: x, layout: l, had: make([]bool, l.Live)}
	for at := range l.Data {
		j.had[at] = true
	}
	return j
}

func (j *judge) find(code, a, b, c int) {
	j.findings = append(j.findings, api.Finding{Code: code, A: a, B: b, C: c})
}

// judgeSuper tells of the superblock and the root.
func (j *judge) judgeSuper() {
	switch {
	case !j.evidence.Has:
		j.find(api.FoundSuper, 0, 0, 0)
	case !j.evidence.Rooted:
		j.find(api.FoundRoot, 0, 0, 0)
	}
}

// authentic is how many blocks are.
func (j *judge) authentic() int {
	count := 0
	for _, r := range j.evidence.Readings {
		if r.Ok {
			count++
		}
	}
	return count
}

// isBlock tells whether just that block stands at an address.
func (j *judge) isBlock(at int, is id) bool {
	r := j.evidence.Readings[at]
	if !r.Ok || idOf(r.Head) != is {
		return false
	}
	if is.kind != api.KindDir {
		return true
	}
	_, e := shelf.Page(r.Body)
	return e == api.OK
}

// isLoose tells whether an address is one of the data that nobody has.
func (j *judge) isLoose(at int) bool {
	// What stands below the data is had from the beginning on.
	return at >= 0 && at < len(j.had) && !j.had[at]
}

// isPiece tells whether a block is a piece that may be had.
func (j *judge) isPiece(at int, is id) bool { return j.isLoose(at) && j.isBlock(at, is) }

// body is what was read at an address.
func (j *judge) body(at int) string { return strings.Clone(j.evidence.Readings[at].Body) }

// used is the addresses that are, rising.
func (j *judge) used() []int {
	var l []int
	for at, had := range j.had {
		if had {
			l = append(l, at)
		}
	}
	return l
}
