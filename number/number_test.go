package number_test

import (
	"math"
	"testing"

	"wanderwire/api"
	"wanderwire/number"
	"wanderwire/plain"
)

// outside: what is no number of a packet; some would be right if only their last bits were looked at.
var outside = []int{-1, -2, -256, math.MinInt, math.MinInt + 1, api.MaxNumber + 1, api.MaxNumber + 2, 1 << 31, 1<<32 + 5, math.MaxInt - 1, math.MaxInt}

// noLengths: how many bytes no cut has.
var noLengths = []int{0, 5, -1, 8, 64, 256 + 1, 1<<32 + 2, math.MinInt, math.MaxInt}

func wantNeed(t *testing.T, n, known, want int, wantErr api.Errno) {
	t.Helper()
	got, err := number.Need(n, known)
	if got != want || plain.Told(err) != wantErr {
		t.Errorf("Need(%d, %d) = %d, %v; want %d, %v", n, known, got, err, want, wantErr)
	}
}

func wantCut(t *testing.T, n, b, want int, wantErr api.Errno) {
	t.Helper()
	got, err := number.Cut(n, b)
	if got != want || plain.Told(err) != wantErr {
		t.Errorf("Cut(%d, %d) = %d, %v; want %d, %v", n, b, got, err, want, wantErr)
	}
}

func wantWhole(t *testing.T, cut, b, next, want int, wantErr api.Errno) {
	t.Helper()
	got, err := number.Whole(cut, b, next)
	if got != want || plain.Told(err) != wantErr {
		t.Errorf("Whole(%d, %d, %d) = %d, %v; want %d, %v", cut, b, next, got, err, want, wantErr)
	}
}

func TestN1Need(t *testing.T) {
	// less: how far n is above known, just where so many bytes are enough, and one more.
	for _, e := range []struct{ less, want int }{
		{1, 1}, {2, 1}, {127, 1}, {128, 1}, {129, 2},
		{1<<15 - 1, 2}, {1 << 15, 2}, {1<<15 + 1, 3},
		{1<<23 - 1, 3}, {1 << 23, 3}, {1<<23 + 1, 4}, {1<<30 - 1, 4},
	} {
		wantNeed(t, e.less-1, -1, e.want, api.OK)
		wantNeed(t, e.less, 0, e.want, api.OK)
		wantNeed(t, api.MaxNumber, api.MaxNumber-e.less, e.want, api.OK)
	}
	wantNeed(t, api.MaxNumber, -1, 4, api.OK)
	wantNeed(t, 0, -1, 1, api.OK)
	wantNeed(t, 200, 44, 2, api.OK)
}

func TestN1NeedWrong(t *testing.T) {
	for _, n := range outside {
		wantNeed(t, n, -1, 0, api.ErrRange)
		wantNeed(t, n, 0, 0, api.ErrRange)
		// One less wraps round at the least int, and is no number either.
		wantNeed(t, n, n-1, 0, api.ErrRange)
	}
	for _, known := range []int{-2, -3, math.MinInt, math.MinInt + 1, math.MinInt + 500} {
		for _, n := range []int{0, 1, 500, api.MaxNumber} {
			wantNeed(t, n, known, 0, api.ErrRange)
		}
	}
	for _, n := range []int{0, 1, 500, api.MaxNumber} {
		wantNeed(t, n, n-1, 1, api.OK)
		for _, known := range []int{n, n + 1, api.MaxNumber, api.MaxNumber + 1, math.MaxInt} {
			wantNeed(t, n, known, 0, api.ErrRange)
		}
	}
}

func TestN1Cut(t *testing.T) {
	for _, c := range []struct{ n, b, want int }{
		{0, 1, 0}, {0, 4, 0}, {1, 1, 1},
		{255, 1, 255}, {256, 1, 0}, {257, 1, 1}, {256, 2, 256},
		{65535, 2, 65535}, {65536, 2, 0}, {65537, 2, 1}, {65536, 3, 65536},
		{1<<24 - 1, 3, 1<<24 - 1}, {1 << 24, 3, 0}, {1<<24 + 1, 3, 1}, {1 << 24, 4, 1 << 24},
		{0x12345678, 1, 0x78}, {0x12345678, 2, 0x5678}, {0x12345678, 3, 0x345678}, {0x12345678, 4, 0x12345678},
		{api.MaxNumber, 1, 255}, {api.MaxNumber, 2, 65535}, {api.MaxNumber, 3, 1<<24 - 1}, {api.MaxNumber, 4, api.MaxNumber},
	} {
		wantCut(t, c.n, c.b, c.want, api.OK)
	}
}

func TestN1CutWrong(t *testing.T) {
	for _, n := range outside {
		for b := 1; b <= 4; b++ {
			wantCut(t, n, b, 0, api.ErrRange)
		}
	}
	for _, b := range noLengths {
		for _, n := range []int{0, 1, 300, api.MaxNumber, -1, math.MaxInt} {
			wantCut(t, n, b, 0, api.ErrRange)
		}
	}
}

func TestN1Whole(t *testing.T) {
	for _, c := range []struct{ cut, b, next, want int }{
		{0, 1, 0, 0}, {22, 1, 0, 22}, {255, 1, 0, 255}, {255, 1, 256, 255}, {1, 1, 255, 257},
		// Of two as near the greater one, from either side.
		{0, 1, 128, 256}, {0, 1, 127, 0}, {0, 1, 129, 256},
		{200, 1, 328, 456}, {200, 1, 327, 200}, {200, 1, 329, 456},
		{128, 1, 256, 384}, {129, 1, 256, 129}, {127, 1, 256, 383},
		{0, 2, 1 << 15, 1 << 16}, {0, 2, 1<<15 - 1, 0}, {40000, 2, 1<<16 + 40000 - 1<<15, 1<<16 + 40000},
		{0, 3, 1 << 23, 1 << 24}, {0, 3, 1<<23 - 1, 0},
		// There is nothing below 0.
		{200, 1, 0, 200}, {255, 1, 10, 255}, {255, 1, 127, 255}, {65535, 2, 0, 65535}, {1<<24 - 1, 3, 0, 1<<24 - 1},
		// Nor above MaxNumber.
		{0, 1, api.MaxNumber, api.MaxNumber - 255}, {127, 1, api.MaxNumber, api.MaxNumber - 128}, {254, 1, api.MaxNumber, api.MaxNumber - 1},
		{0, 2, api.MaxNumber, api.MaxNumber - 65535}, {0, 3, api.MaxNumber, api.MaxNumber - (1<<24 - 1)},
		{255, 1, api.MaxNumber, api.MaxNumber}, {65535, 2, api.MaxNumber, api.MaxNumber},
		// With four bytes just one number is cut so.
		{0, 4, api.MaxNumber, 0}, {api.MaxNumber, 4, 0, api.MaxNumber}, {api.MaxNumber, 4, api.MaxNumber, api.MaxNumber}, {270, 4, 143, 270},
		{0, 1, 230065695, 230065664},
	} {
		wantWhole(t, c.cut, c.b, c.next, c.want, api.OK)
	}
}

func TestN1WholeWrong(t *testing.T) {
	for b := 1; b <= 4; b++ {
		for _, next := range outside {
			wantWhole(t, 0, b, next, 0, api.ErrRange)
			wantWhole(t, 7, b, next, 0, api.ErrRange)
		}
		for _, cut := range []int{-1, -255, -256, math.MinInt, math.MinInt + 1} {
			wantWhole(t, cut, b, 0, 0, api.ErrRange)
			wantWhole(t, cut, b, api.MaxNumber, 0, api.ErrRange)
		}
	}
	for _, b := range noLengths {
		wantWhole(t, 0, b, 0, 0, api.ErrRange)
		wantWhole(t, 5, b, 300, 0, api.ErrRange)
	}
}

func TestN1WholeOfNone(t *testing.T) {
	none := [][]int{1: {256, 257, 300}, 2: {1 << 16, 1<<16 + 1}, 3: {1 << 24, 1<<24 + 1, api.MaxNumber}, 4: {api.MaxNumber + 1, 1 << 31, 1<<32 - 1, 1 << 32}}
	for b := 1; b <= 4; b++ {
		for _, cut := range append(none[b], 1<<32+3, math.MaxInt-1, math.MaxInt) {
			for _, next := range []int{0, 300, 1 << 24, api.MaxNumber} {
				wantWhole(t, cut, b, next, 0, api.ErrRange)
			}
		}
	}
}

// nearest goes over all numbers that are cut so, by N1's words.
func nearest(cut, step, next int) int {
	best := cut
	for n := cut; n <= api.MaxNumber; n += step {
		if max(n-next, next-n) <= max(best-next, next-best) {
			best = n
		}
	}
	return best
}

func TestN1WholeIsTheNearest(t *testing.T) {
	for _, cut := range []int{0, 1, 255, 256, 32767, 32768, 40000, 65535} {
		for _, next := range []int{0, 1, 255, 32767, 32768, 32769, 65535, 65536, 7232, 7231, 72768, 72769, 123456789, api.MaxNumber - 32768, api.MaxNumber - 32767, api.MaxNumber - 1, api.MaxNumber} {
			wantWhole(t, cut, 2, next, nearest(cut, 1<<16, next), api.OK)
			wantWhole(t, cut<<8, 3, next, nearest(cut<<8, 1<<24, next), api.OK)
		}
	}
	for cut := 0; cut < 256; cut += 5 {
		wantWhole(t, cut, 1, api.MaxNumber-100, nearest(cut, 256, api.MaxNumber-100), api.OK)
		wantWhole(t, cut, 1, 100, nearest(cut, 256, 100), api.OK)
	}
}

// TestN1WhoKnowsAsMuchTellsItRight: by as many bytes as are needed a number comes back, whatever up to n - 1 is the greatest known.
func TestN1WhoKnowsAsMuchTellsItRight(t *testing.T) {
	for _, less := range []int{1, 2, 100, 127, 128, 129, 1 << 15, 1<<15 + 1, 1 << 23, 1<<23 + 1} {
		for _, known := range []int{-1, 0, 1, 77, 255, 65000, 1 << 20, api.MaxNumber - less} {
			n := known + less
			b, err := number.Need(n, known)
			if err != nil {
				t.Fatal(err)
			}
			cut, err := number.Cut(n, b)
			if err != nil {
				t.Fatal(err)
			}
			for _, heard := range []int{known, known + less/4, known + less/2, n - 1} {
				wantWhole(t, cut, b, heard+1, n, api.OK)
			}
		}
	}
}
