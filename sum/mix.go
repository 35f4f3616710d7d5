package sum

// Mix takes bytes piece by piece. All it has stands in itself, so that a copy of it goes on for itself.
type Mix struct {
	made  bool // by New: the zero Mix takes nothing and tells nothing
	state state
	rest  block // bytes that are no whole block yet
	have  int   // of rest, always fewer than a block's
	size  int   // bytes in all
}

// New is a mix of nothing yet.
func New() *Mix {
	m := start()
	return &m
}

func start() Mix { return Mix{made: true, state: first} }

// Feed takes more bytes.
func (m *Mix) Feed(s string) {
	if m == nil || !m.made {
		return
	}
	m.size += len(s)
	for len(s) > 0 {
		n := copy(m.rest[m.have:], s)
		s = s[n:]
		m.have += n
		if m.have == blockBytes {
			m.state = m.state.with(&m.rest)
			m.have = 0
		}
	}
}

// Told is the sum of all that was taken.
func (m *Mix) Told() string {
	if m == nil || !m.made {
		return ""
	}
	d := finish(*m)
	return string(d[:])
}

// finish is a mix's sum. It works on a copy, for the mix itself may be fed on.
func finish(m Mix) digest {
	m.rest[m.have] = 128
	clear(m.rest[m.have+1:])
	if m.have >= sizeAt {
		m.state = m.state.with(&m.rest)
		m.rest = block{}
	}
	putHigh(m.rest[sizeAt:], 8*uint64(m.size))
	return m.state.with(&m.rest).bytes()
}
