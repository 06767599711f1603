package trip_test

import (
	"math"
	"testing"

	"wanderwire/api"
	"wanderwire/plain"
	"wanderwire/trip"
)

// top is the longest time, and eights the most that Smooth and Vary can be.
const (
	top    = api.MaxTime
	eights = 8 * top
)

// noTimes: what is no time; some would be one if only their last bits were looked at.
var noTimes = []int{0, -1, -2, -top, math.MinInt, math.MinInt + 1, top + 1, top + 2, 1<<32 + 5, math.MaxInt - 1, math.MaxInt}

// noDelays: 0 is a delay, though no time.
var noDelays = noTimes[1:]

// noSmooths and noVaries: what Smooth and Vary can not be.
var (
	noSmooths = []int{7, 6, 1, 0, -1, -8, math.MinInt, math.MinInt + 1, eights + 1, eights + 8, 1<<32 + 80, math.MaxInt - 1, math.MaxInt}
	noVaries  = []int{-1, -2, -eights, math.MinInt, math.MinInt + 1, eights + 1, eights + 2, 1<<32 + 80, math.MaxInt - 1, math.MaxInt}
)

// of Smooth, Vary and Least a Trip.
func of(smooth, vary, least int) api.Trip {
	return api.Trip{Smooth: smooth, Vary: vary, Least: least}
}

func wantFirst(t *testing.T, time int, want api.Trip, wantErr api.Errno) {
	t.Helper()
	got, err := trip.First(time)
	if got != want || plain.Told(err) != wantErr {
		t.Errorf("First(%d) = %v, %v; want %v, %v", time, got, err, want, wantErr)
	}
}

func wantNext(t *testing.T, p api.Trip, time, delay int, want api.Trip, wantErr api.Errno) {
	t.Helper()
	got, err := trip.Next(p, time, delay)
	if got != want || plain.Told(err) != wantErr {
		t.Errorf("Next(%v, %d, %d) = %v, %v; want %v, %v", p, time, delay, got, err, want, wantErr)
	}
}

func wantWait(t *testing.T, p api.Trip, want int, wantErr api.Errno) {
	t.Helper()
	got, err := trip.Wait(p)
	if got != want || plain.Told(err) != wantErr {
		t.Errorf("Wait(%v) = %d, %v; want %d, %v", p, got, err, want, wantErr)
	}
}

// wantNotRight: Next and Wait refuse a Trip.
func wantNotRight(t *testing.T, p api.Trip) {
	t.Helper()
	for _, delay := range []int{0, 1, top} {
		for _, time := range []int{1, 50, top} {
			wantNext(t, p, time, delay, api.Trip{}, api.ErrRange)
		}
	}
	wantWait(t, p, 0, api.ErrRange)
}

func TestT1First(t *testing.T) {
	wantFirst(t, 1, of(8, 4, 1), api.OK)
	wantFirst(t, 2, of(16, 8, 2), api.OK)
	wantFirst(t, 33, of(264, 132, 33), api.OK)
	wantFirst(t, 15184, of(121472, 60736, 15184), api.OK)
	wantFirst(t, top-1, of(799992, 399996, 99999), api.OK)
	wantFirst(t, top, of(800000, 400000, 100000), api.OK)
}

func TestT1FirstWrong(t *testing.T) {
	for _, time := range noTimes {
		wantFirst(t, time, api.Trip{}, api.ErrRange)
	}
}

func TestT1Next(t *testing.T) {
	for _, c := range []struct {
		p           api.Trip
		time, delay int
		want        api.Trip
	}{
		{of(800, 400, 100), 100, 0, of(800, 300, 100)},
		{of(800, 400, 50), 120, 10, of(810, 320, 50)},
		{of(1026, 185, 62), 5807, 439, of(6266, 10619, 62)},
		{of(137495, 44888, 8357), 1603, 8, of(121912, 64832, 1603)},
		// The least and the most of each: Smooth,
		{of(8, 400, 100), 100, 0, of(107, 498, 100)},
		{of(eights, 400, 100), 100, 0, of(700100, 200100, 100)},
		// Vary,
		{of(800, 0, 100), 100, 0, of(800, 0, 100)},
		{of(800, 0, 100), 101, 0, of(801, 2, 100)},
		{of(800, eights, 100), 100, 0, of(800, 600000, 100)},
		// Least,
		{of(800, 400, 1), 100, 0, of(800, 300, 1)},
		{of(800, 400, top), 100, 0, of(800, 300, 100)},
		{of(800, 400, top), top, 0, of(100700, 200100, top)},
		// t,
		{of(800, 400, 1), 1, 0, of(701, 498, 1)},
		{of(800, 400, 100), 1, 0, of(701, 498, 1)},
		{of(800, 400, 100), top, 0, of(100700, 200100, 100)},
		// and all of them.
		{of(8, 0, 1), 1, 0, of(8, 0, 1)},
		{of(eights, eights, top), top, 0, of(eights, 600000, top)},
	} {
		wantNext(t, c.p, c.time, c.delay, c.want, api.OK)
	}
}

func TestT1NextLeast(t *testing.T) {
	// t one less than Least, just Least, and one more.
	wantNext(t, of(800, 400, 100), 99, 0, of(799, 302, 99), api.OK)
	wantNext(t, of(800, 400, 100), 100, 0, of(800, 300, 100), api.OK)
	wantNext(t, of(800, 400, 100), 101, 0, of(801, 302, 100), api.OK)
	// Least goes by t itself, not by what is left when delay is taken.
	wantNext(t, of(800, 400, 100), 101, 1, of(800, 300, 100), api.OK)
	wantNext(t, of(800, 400, 100), 99, 50, of(799, 302, 99), api.OK)
}

func TestT1NextDelay(t *testing.T) {
	p := of(800, 400, 60)
	// What is left is one above Least, just Least, and one below it.
	wantNext(t, p, 90, 29, of(761, 378, 60), api.OK)
	wantNext(t, p, 90, 30, of(760, 380, 60), api.OK)
	wantNext(t, p, 90, 31, of(790, 320, 60), api.OK)
	// Not even a part of it is taken then.
	wantNext(t, p, 90, 89, of(790, 320, 60), api.OK)
	wantNext(t, p, 90, 90, of(790, 320, 60), api.OK)
	wantNext(t, p, 90, 91, of(790, 320, 60), api.OK)
	wantNext(t, p, 90, top, of(790, 320, 60), api.OK)
	// t is just Least, or one more.
	wantNext(t, p, 60, 0, of(760, 380, 60), api.OK)
	wantNext(t, p, 60, 1, of(760, 380, 60), api.OK)
	wantNext(t, p, 61, 1, of(760, 380, 60), api.OK)
	wantNext(t, p, 61, 2, of(761, 378, 60), api.OK)
	// Of a t below the Least that was, which is Least now, nothing is taken.
	wantNext(t, p, 59, 0, of(759, 382, 59), api.OK)
	wantNext(t, p, 59, 1, of(759, 382, 59), api.OK)
	wantNext(t, p, 59, top, of(759, 382, 59), api.OK)
	// The longest t and the longest delay.
	wantNext(t, of(800, 400, 1), top, top, of(100700, 200100, 1), api.OK)
	wantNext(t, of(800, 400, 1), top, top-1, of(701, 498, 1), api.OK)
	wantNext(t, of(800, 400, 2), top, top-1, of(100700, 200100, 2), api.OK)
	wantNext(t, of(800, 400, 2), top, top-2, of(702, 496, 2), api.OK)
	wantNext(t, of(800, 400, 1), 1, top, of(701, 498, 1), api.OK)
}

func TestT1NextRoundsDown(t *testing.T) {
	// A fourth of Vary; the eighth of Smooth is t.
	for vary, want := range []int{0, 1, 2, 3, 3, 4, 5, 6, 6, 7} {
		wantNext(t, of(800, vary, 100), 100, 0, of(800, want, 100), api.OK)
	}
	wantNext(t, of(800, eights-1, 100), 100, 0, of(800, 600000, 100), api.OK)
	wantNext(t, of(800, eights-3, 100), 100, 0, of(800, 599998, 100), api.OK)
	// An eighth of Smooth, which is 100 for all but the last.
	for more := range 8 {
		wantNext(t, of(800+more, 0, 50), 100, 0, of(800+more, 0, 50), api.OK)
		wantNext(t, of(800+more, 0, 50), 90, 0, of(790+more, 20, 50), api.OK)
	}
	wantNext(t, of(808, 0, 50), 100, 0, of(807, 2, 50), api.OK)
	wantNext(t, of(799, 0, 50), 100, 0, of(800, 2, 50), api.OK)
	wantNext(t, of(15, 0, 1), 1, 0, of(15, 0, 1), api.OK)
	wantNext(t, of(16, 0, 1), 1, 0, of(15, 2, 1), api.OK)
	wantNext(t, of(eights-1, 0, 1), top, 0, of(eights, 2, 1), api.OK)
}

func TestT1NextApart(t *testing.T) {
	// t as an eighth of Smooth, above it and below it.
	wantNext(t, of(800, 100, 50), 100, 0, of(800, 75, 50), api.OK)
	wantNext(t, of(800, 100, 50), 101, 0, of(801, 77, 50), api.OK)
	wantNext(t, of(800, 100, 50), 99, 0, of(799, 77, 50), api.OK)
	wantNext(t, of(800, 100, 50), 150, 0, of(850, 175, 50), api.OK)
	wantNext(t, of(800, 100, 50), 50, 0, of(750, 175, 50), api.OK)
	// By what is left of t, not by t.
	wantNext(t, of(800, 100, 50), 140, 40, of(800, 75, 50), api.OK)
	wantNext(t, of(800, 100, 50), 140, 60, of(780, 115, 50), api.OK)
}

func TestT1NextVaryAtMost(t *testing.T) {
	// No right Trip and time bring Vary above 8 times MaxTime: these bring it highest.
	for _, vary := range []int{eights, eights - 1} {
		wantNext(t, of(8, vary, 1), top, 0, of(100007, 799998, 1), api.OK)
		wantNext(t, of(15, vary, 1), top, 0, of(100014, 799998, 1), api.OK)
		wantNext(t, of(eights, vary, top), 1, 0, of(700001, 799998, 1), api.OK)
	}
	wantNext(t, of(8, 799998, 1), top, 0, of(100007, 799997, 1), api.OK)
	wantNext(t, of(eights, 799998, 1), 1, top, of(700001, 799997, 1), api.OK)
}

func TestT1NextWrong(t *testing.T) {
	p := of(800, 400, 100)
	for _, time := range noTimes {
		for _, delay := range []int{0, 1, top, -1, top + 1} {
			wantNext(t, p, time, delay, api.Trip{}, api.ErrRange)
		}
		// What would be left is a time, were time and delay not looked at each.
		wantNext(t, p, time, time-100, api.Trip{}, api.ErrRange)
	}
	for _, delay := range noDelays {
		for _, time := range []int{1, 99, 100, 101, top} {
			wantNext(t, p, time, delay, api.Trip{}, api.ErrRange)
		}
	}
}

func TestT1NotRight(t *testing.T) {
	for _, n := range noSmooths {
		wantNotRight(t, of(n, 400, 100))
		wantNotRight(t, of(n, 0, 1))
	}
	for _, n := range noVaries {
		wantNotRight(t, of(800, n, 100))
		wantNotRight(t, of(8, n, 1))
	}
	for _, n := range noTimes {
		wantNotRight(t, of(800, 400, n))
		wantNotRight(t, of(eights, eights, n))
	}
	wantNotRight(t, api.Trip{})
	wantNotRight(t, of(-1, -1, -1))
	wantNotRight(t, of(math.MinInt, math.MinInt, math.MinInt))
	wantNotRight(t, of(math.MaxInt, math.MaxInt, math.MaxInt))
}

func TestT1Wait(t *testing.T) {
	wantWait(t, of(800, 400, 100), 300, api.OK)
	wantWait(t, of(996, 450, 3), 349, api.OK)
	// The least and the most of each.
	wantWait(t, of(8, 0, 1), 2, api.OK)
	wantWait(t, of(8, eights, 1), 400001, api.OK)
	wantWait(t, of(eights, 0, top), 100001, api.OK)
	wantWait(t, of(eights, eights, 1), 500000, api.OK)
	wantWait(t, of(eights, eights, top), 500000, api.OK)
	// The half of Vary: 0, which becomes 1, and 1, and more.
	for vary, want := range []int{101, 101, 101, 101, 102, 102, 103, 103} {
		wantWait(t, of(800, vary, 100), want, api.OK)
	}
	wantWait(t, of(800, eights-1, 100), 400099, api.OK)
	// The eighth of Smooth; what is left of it and of Vary do not make one more.
	for more := range 8 {
		wantWait(t, of(8+more, 4, 1), 3, api.OK)
		wantWait(t, of(800+more, 41, 1), 120, api.OK)
	}
	wantWait(t, of(16, 4, 1), 4, api.OK)
	wantWait(t, of(808, 41, 1), 121, api.OK)
	wantWait(t, of(eights-1, 4, 1), 100001, api.OK)
}

func TestT1OneBehindTheOther(t *testing.T) {
	p, err := trip.First(100)
	if err != nil || p != of(800, 400, 100) {
		t.Fatalf("First(100) = %v, %v", p, err)
	}
	for _, c := range []struct {
		time, delay int
		want        api.Trip
		wait        int
	}{
		{100, 0, of(800, 300, 100), 250},
		{130, 20, of(810, 245, 100), 223},
		{80, 20, of(789, 226, 80), 211},
		{105, 25, of(771, 206, 80), 199},
		{105, 26, of(780, 173, 80), 183},
		{3, 3, of(686, 318, 3), 244},
		{88, 85, of(604, 403, 3), 276},
		{top, 0, of(100529, 200153, 3), 112642},
	} {
		wantNext(t, p, c.time, c.delay, c.want, api.OK)
		wantWait(t, c.want, c.wait, api.OK)
		p = c.want
	}
}

// TestT1WhatComesOutGoesIn: whatever times are handed in, the Trip that comes out is right, and Wait of it is above 0.
func TestT1WhatComesOutGoesIn(t *testing.T) {
	times := []int{1, 2, 7, 8, 9, 100, 4096, top / 2, top - 1, top}
	for _, first := range times {
		p, err := trip.First(first)
		if err != nil {
			t.Fatalf("First(%d): %v", first, err)
		}
		for i := range 400 {
			time, delay := times[i*i*7%len(times)], times[i*3%len(times)]
			q, err := trip.Next(p, time, delay)
			if err != nil {
				t.Fatalf("Next(%v, %d, %d): %v", p, time, delay, err)
			}
			if wait, err := trip.Wait(q); err != nil || wait < 2 {
				t.Fatalf("Wait(%v) = %d, %v", q, wait, err)
			}
			p = q
		}
	}
}

// TestT1TheSameTimeStays: Vary fades by a fourth at a time, down to 3, of which a fourth is 0.
func TestT1TheSameTimeStays(t *testing.T) {
	for _, time := range []int{1, 33, top} {
		p, _ := trip.First(time)
		for range 100 {
			p, _ = trip.Next(p, time, 0)
		}
		wantNext(t, p, time, 0, of(8*time, 3, time), api.OK)
		wantWait(t, p, time+1, api.OK)
	}
}

// TestT1NothingIsKept: the same comes out again, whatever was asked, or refused, in between.
func TestT1NothingIsKept(t *testing.T) {
	p := of(800, 400, 60)
	wantNext(t, p, 90, 30, of(760, 380, 60), api.OK)
	wantNext(t, of(8, 0, 1), top, 5, of(100002, 199988, 1), api.OK)
	wantNext(t, p, 0, 30, api.Trip{}, api.ErrRange)
	wantFirst(t, 5, of(40, 20, 5), api.OK)
	wantNext(t, p, 90, 30, of(760, 380, 60), api.OK)
	wantWait(t, p, 300, api.OK)
}
