package tiers

import (
	"math"
	"slices"
	"testing"
)

// among tells whether an epoch is one of the last n, by the document's words: last - n is below it.
func among(last, epoch, n int) bool { return last-n < epoch }

// keepsByHand is the chapter's sentence.
func keepsByHand(last, epoch int) bool {
	if epoch < 0 || epoch > last {
		return false
	}
	switch {
	case epoch == 0:
		return true
	case among(last, epoch, 4):
		return true
	case epoch%4 == 0 && among(last, epoch, 16):
		return true
	case epoch%16 == 0 && among(last, epoch, 64):
		return true
	case epoch%64 == 0:
		return true
	}
	return false
}

func keptByHand(last int) []int {
	var out []int
	for epoch := 0; epoch <= last; epoch++ {
		if keepsByHand(last, epoch) {
			out = append(out, epoch)
		}
	}
	return out
}

// P21.1, example 1: rows that are written out.
func TestKept(t *testing.T) {
	cases := []struct {
		last int
		want []int
	}{
		{20, []int{0, 8, 12, 16, 17, 18, 19, 20}},
		{0, []int{0}},
		{1, []int{0, 1}},
		{3, []int{0, 1, 2, 3}},
		{4, []int{0, 1, 2, 3, 4}},
		{5, []int{0, 2, 3, 4, 5}},
		{7, []int{0, 4, 5, 6, 7}},
		{8, []int{0, 4, 5, 6, 7, 8}},
		{19, []int{0, 4, 8, 12, 16, 17, 18, 19}},
		{64, []int{0, 16, 32, 48, 52, 56, 60, 61, 62, 63, 64}},
		{79, []int{0, 16, 32, 48, 64, 68, 72, 76, 77, 78, 79}},
		{80, []int{0, 32, 48, 64, 68, 72, 76, 77, 78, 79, 80}},
		{130, []int{0, 64, 80, 96, 112, 116, 120, 124, 127, 128, 129, 130}},
		{255, []int{0, 64, 128, 192, 208, 224, 240, 244, 248, 252, 253, 254, 255}},
		{-1, nil}, {-64, nil}, {math.MinInt, nil},
		{1<<20 + 1, nil}, {1 << 40, nil}, {math.MaxInt, nil},
	}
	for _, c := range cases {
		if got := Kept(c.last); !slices.Equal(got, c.want) {
			t.Errorf("Kept(%d): %v, not %v", c.last, got, c.want)
		}
	}
}

// P21.1: all small numbers, the ones out of range among them.
func TestKeepsOfAll(t *testing.T) {
	for last := -5; last < 400; last++ {
		for epoch := -70; epoch < 410; epoch++ {
			if got, want := Keeps(last, epoch), keepsByHand(last, epoch); got != want {
				t.Fatalf("Keeps(%d, %d): %v", last, epoch, got)
			}
		}
		if got, want := Kept(last), keptByHand(last); !slices.Equal(got, want) {
			t.Fatalf("Kept(%d): %v, not %v", last, got, want)
		}
	}
}

// P21.1: the greatest one that is allowed, and huge numbers, which Keeps has no bound for.
func TestGreat(t *testing.T) {
	if got := Kept(1 << 20); !slices.Equal(got, keptByHand(1<<20)) {
		t.Error("Kept(2^20):", len(got))
	}
	for _, last := range []int{1<<20 + 1, 1 << 40, math.MaxInt - 64, math.MaxInt - 1, math.MaxInt} {
		for back := range 200 {
			if got, want := Keeps(last, last-back), keepsByHand(last, last-back); got != want {
				t.Errorf("Keeps(%d, %d): %v", last, last-back, got)
			}
		}
		for _, epoch := range []int{0, 64, 1 << 19, last / 128 * 64} {
			if !Keeps(last, epoch) || Keeps(last, epoch+16) || Keeps(last, epoch+4) || Keeps(last, epoch+1) {
				t.Error(last, epoch)
			}
		}
		for _, epoch := range []int{-1, -64, math.MinInt, math.MinInt + 64} {
			if Keeps(last, epoch) || Nearest(last, epoch) != -1 {
				t.Error(last, epoch)
			}
		}
	}
	for _, last := range []int{-1, math.MinInt} {
		for _, epoch := range []int{0, -1, last, last + 1, math.MinInt, math.MaxInt} {
			if Keeps(last, epoch) || Nearest(last, epoch) != -1 {
				t.Error(last, epoch)
			}
		}
	}
}

// P21.2: of all small numbers the last one of the list that is not above.
func TestNearest(t *testing.T) {
	for last := -3; last < 300; last++ {
		kept := keptByHand(last)
		for epoch := -5; epoch < 310; epoch++ {
			want := -1
			for _, k := range kept {
				if epoch >= 0 && epoch <= last && k <= epoch {
					want = k
				}
			}
			if got := Nearest(last, epoch); got != want {
				t.Fatalf("Nearest(%d, %d): %d, not %d", last, epoch, got, want)
			}
		}
	}
	far := math.MaxInt - 64 - math.MaxInt%64
	cases := [][3]int{
		{20, 15, 12}, {20, 7, 0}, {20, 20, 20}, {20, 21, -1}, {200, 100, 64}, {200, 0, 0}, {200, 63, 0}, {200, 64, 64},
		{1 << 30, 1<<30 - 65, 1<<30 - 128}, {math.MaxInt, math.MaxInt, math.MaxInt}, {math.MaxInt, far - 1, far - 64}, {math.MaxInt, 1<<40 + 63, 1 << 40},
	}
	for _, c := range cases {
		if got := Nearest(c[0], c[1]); got != c[2] {
			t.Errorf("Nearest(%d, %d): %d, not %d", c[0], c[1], got, c[2])
		}
	}
}

// P21.2, P21.4: the greatest distance, and it is below 64.
func TestGap(t *testing.T) {
	for last := -3; last < 700; last++ {
		want := 0
		for epoch := 0; epoch <= last; epoch++ {
			want = max(want, epoch-Nearest(last, epoch))
		}
		if got := Gap(last); got != want || got >= 64 {
			t.Fatalf("Gap(%d): %d, not %d", last, got, want)
		}
	}
	cases := [][2]int{
		{3, 0}, {4, 0}, {5, 1}, {7, 3}, {20, 7}, {63, 15}, {79, 15}, {80, 31}, {96, 47}, {112, 63}, {128, 63}, {5000, 63}, {1 << 20, 63},
		{-1, 0}, {math.MinInt, 0}, {1<<20 + 1, 0}, {math.MaxInt, 0},
	}
	for _, c := range cases {
		if got := Gap(c[0]); got != c[1] {
			t.Errorf("Gap(%d): %d, not %d", c[0], got, c[1])
		}
	}
}

// P21.3: what is not retained is never retained later.
func TestNeverAgain(t *testing.T) {
	for epoch := range 300 {
		gone := false
		for last := epoch; last < 700; last++ {
			if gone && Keeps(last, epoch) {
				t.Fatalf("epoch %d is retained again behind %d", epoch, last)
			}
			gone = !Keeps(last, epoch)
		}
	}
}

// Rule 'Memory': each answer is a list of its own.
func TestKeptMemory(t *testing.T) {
	for range 2 {
		got := Kept(20)
		if !slices.Equal(got, []int{0, 8, 12, 16, 17, 18, 19, 20}) {
			t.Fatal(got)
		}
		clear(got[:cap(got)])
	}
}
