package rules

import (
	"testing"

	"annals/api"
)

// The document's section 'Limits'.
func TestLimits(t *testing.T) {
	got := []int{
		api.MaxSize, api.MaxHeight, api.MaxID, api.MaxKey, api.MaxChanges, api.MaxBatch, api.MaxPage, api.MaxCache,
		api.MaxArena, api.MaxTime, api.MaxSeed, api.MaxRecord, api.MaxSectors, api.MaxParts, api.Sector,
	}
	want := []int{32, 8, 24, 48, 4096, 32, 32, 8, 1 << 22, 1 << 50, 64, 4000, 16384, 4096, 64}
	for i := range want {
		if got[i] != want[i] {
			t.Errorf("limit %d: %d, not %d", i, got[i], want[i])
		}
	}
}

// The document's section 'Errors', and the numbers of single layers.
func TestErrors(t *testing.T) {
	got := []api.Errno{
		api.OK, api.ErrArg, api.ErrNil, api.ErrShort, api.ErrFull, api.ErrForm, api.ErrDead, api.ErrTwice, api.ErrQuota,
		api.ErrEmpty, api.ErrFuture, api.ErrOrder, api.ErrCursor, api.ErrEarly, api.ErrKind, api.ErrLog, api.ErrProof,
	}
	want := []api.Errno{0, 1, 2, 3, 4, 5, 70, 80, 81, 82, 83, 84, 85, 86, 87, 90, 95}
	for i := range want {
		var err error = got[i]
		if got[i] != want[i] || err == nil {
			t.Errorf("error %d: %d, not %d", i, got[i], want[i])
		}
	}
}
