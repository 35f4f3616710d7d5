package journal

import (
	"errors"
	"testing"

	"grapnel/api"
	"grapnel/plate"
)

// 'Ways': why steps ended is wrapped, and asked by errors.Is, however deep it stands.
func TestStop(t *testing.T) {
	err := error(stop{step: 3, why: api.ErrPower})
	if !errors.Is(err, api.ErrPower) || errors.Is(err, api.ErrArg) {
		t.Fatalf("a stop: %v", err)
	}
	if want := "step 3: " + api.ErrPower.Error(); err.Error() != want {
		t.Fatalf("in words: %q; want %q", err.Error(), want)
	}
	for _, c := range []struct {
		err  error
		want api.Errno
	}{{nil, api.OK}, {err, api.ErrPower}, {errors.Join(errors.New("ahead"), err), api.ErrPower}, {stop{why: api.ErrRange}, api.ErrArg}} {
		if e := answer(c.err); e != c.want {
			t.Errorf("answer of %v: %d; want %d", c.err, e, c.want)
		}
	}
}

// Steps go on till one fails, and those behind it are not taken.
func TestFollow(t *testing.T) {
	p, _ := plate.New(24)
	one := step{blank(0)}
	if err := follow(p, one, nil, one); err != nil || p.Writes() != 16 || p.Pending() != 0 {
		t.Fatalf("three steps: %v, %d writes, %d wait", err, p.Writes(), p.Pending())
	}
	p.Arm(12)
	var x stop
	if err := follow(p, one, one, one); !errors.As(err, &x) || x != (stop{step: 1, why: api.ErrPower}) || p.Writes() != 28 || p.Pending() != 4 {
		t.Fatalf("a step that fails: %v, %d writes, %d wait", err, p.Writes(), p.Pending())
	}
	if err := follow(p, nil); !errors.Is(err, api.ErrPower) {
		t.Fatalf("a step of no block, the power off: %v", err)
	}
	if err := follow(p); err != nil {
		t.Fatalf("no step: %v", err)
	}
}
