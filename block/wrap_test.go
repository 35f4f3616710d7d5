package block

import (
	"errors"
	"testing"

	"grapnel/api"
)

// 'Ways': an error of a sector is wrapped, and its number found by errors.As, however deep it stands.
func TestWrapped(t *testing.T) {
	for _, e := range []api.Errno{api.ErrArg, api.ErrRange, api.ErrPower, api.ErrSector} {
		err := wrapped(17, e)
		var x sectorError
		if !errors.As(err, &x) || x.sector != 17 || !errors.Is(err, e) {
			t.Fatalf("wrapped: %v", err)
		}
		if numberOf(err) != e || numberOf(errors.Join(errors.New("ahead"), err)) != e {
			t.Fatalf("numberOf: %d; want %d", numberOf(err), e)
		}
		if want := "sector 17: " + e.Error(); err.Error() != want {
			t.Fatalf("in words: %q; want %q", err.Error(), want)
		}
	}
	if err := wrapped(17, api.OK); err != nil || numberOf(err) != api.OK {
		t.Fatalf("wrapped OK: %v", err)
	}
}
