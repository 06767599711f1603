package ranges_test

import (
	"math"
	"slices"
	"testing"

	"wanderwire/api"
	"wanderwire/plain"
	"wanderwire/ranges"
)

const top = api.MaxNumber

// outside: what is no number; some would be right if only their last bits were looked at.
var outside = []int{-1, -2, math.MinInt, math.MinInt + 1, top + 1, top + 2, 1<<32 + 5, math.MaxInt - 1, math.MaxInt}

// list of ranges, from Lo and Hi by turns.
func list(ends ...int) []api.Range {
	var l []api.Range
	for i := 0; i < len(ends); i += 2 {
		l = append(l, api.Range{Lo: ends[i], Hi: ends[i+1]})
	}
	return l
}

// spread has so many ranges of two numbers each, 10 apart, the lowest from lo on.
func spread(many, lo int) []api.Range {
	var l []api.Range
	for i := many - 1; i >= 0; i-- {
		l = append(l, api.Range{Lo: lo + 10*i, Hi: lo + 10*i + 1})
	}
	return l
}

// with has the ranges with others behind them.
func with(l []api.Range, ends ...int) []api.Range { return slices.Concat(l, list(ends...)) }

// guarded lays a list into longer memory, and tells whether all of it still is as it was.
func guarded(l []api.Range) ([]api.Range, func() bool) {
	mark := api.Range{Lo: -77, Hi: -78}
	room := append(slices.Clone(l), mark, mark, mark)
	before := slices.Clone(room)
	return room[:len(l)], func() bool { return slices.Equal(room, before) }
}

func wantCheck(t *testing.T, l []api.Range, want api.Errno) {
	t.Helper()
	g, same := guarded(l)
	if err := ranges.Check(g); plain.Told(err) != want {
		t.Errorf("Check(%v) = %v; want %v", l, err, want)
	}
	if !same() {
		t.Errorf("Check(%v) wrote into it", l)
	}
}

func wantAdd(t *testing.T, l []api.Range, n int, want []api.Range, wantNew bool, wantErr api.Errno) {
	t.Helper()
	g, same := guarded(l)
	got, isNew, err := ranges.Add(g, n)
	if !slices.Equal(got, want) || isNew != wantNew || plain.Told(err) != wantErr {
		t.Errorf("Add(%v, %d) = %v, %v, %v; want %v, %v, %v", l, n, got, isNew, err, want, wantNew, wantErr)
	}
	scribble(got)
	if !same() {
		t.Errorf("Add(%v, %d) wrote into the list, or shares its memory", l, n)
	}
}

func wantHas(t *testing.T, l []api.Range, n int, want bool, wantErr api.Errno) {
	t.Helper()
	g, same := guarded(l)
	got, err := ranges.Has(g, n)
	if got != want || plain.Told(err) != wantErr {
		t.Errorf("Has(%v, %d) = %v, %v; want %v, %v", l, n, got, err, want, wantErr)
	}
	if !same() {
		t.Errorf("Has(%v, %d) wrote into it", l, n)
	}
}

func wantCount(t *testing.T, l []api.Range, want int, wantErr api.Errno) {
	t.Helper()
	g, same := guarded(l)
	got, err := ranges.Count(g)
	if got != want || plain.Told(err) != wantErr {
		t.Errorf("Count(%v) = %d, %v; want %d, %v", l, got, err, want, wantErr)
	}
	if !same() {
		t.Errorf("Count(%v) wrote into it", l)
	}
}

func wantBoth(t *testing.T, a, b, want []api.Range, wantErr api.Errno) {
	t.Helper()
	ga, sameA := guarded(a)
	gb, sameB := guarded(b)
	got, err := ranges.Both(ga, gb)
	if !slices.Equal(got, want) || plain.Told(err) != wantErr {
		t.Errorf("Both(%v, %v) = %v, %v; want %v, %v", a, b, got, err, want, wantErr)
	}
	scribble(got)
	if !sameA() || !sameB() {
		t.Errorf("Both(%v, %v) wrote into a list, or shares its memory", a, b)
	}
}

// scribble over an answer, and over what lies behind it, so that shared memory shows.
func scribble(l []api.Range) {
	l = l[:cap(l)]
	for i := range l {
		l[i] = api.Range{Lo: -1, Hi: -2}
	}
}

// wantAll that ask Check first tell its error, and nothing else.
func wantAll(t *testing.T, l []api.Range, want api.Errno) {
	t.Helper()
	wantCheck(t, l, want)
	wantAdd(t, l, 5, nil, false, want)
	wantHas(t, l, 5, false, want)
	wantCount(t, l, 0, want)
	wantBoth(t, l, nil, nil, want)
	wantBoth(t, nil, l, nil, want)
	wantBoth(t, l, l, nil, want)
}

func TestR1Check(t *testing.T) {
	for _, l := range [][]api.Range{
		nil, {}, list(0, 0), list(top, top), list(0, top), list(5, 5), list(4, 5),
		list(7, 8, 4, 5), list(7, 7, 5, 5), list(2, top, 0, 0), list(top, top, 0, top-2),
		spread(api.MaxRanges-1, 0), spread(api.MaxRanges, 0), spread(api.MaxRanges, top-111),
	} {
		wantCheck(t, l, api.OK)
	}
}

func TestR1CheckFull(t *testing.T) {
	wantAll(t, spread(api.MaxRanges+1, 0), api.ErrFull)
	wantAll(t, spread(api.MaxRanges+2, 0), api.ErrFull)
	wantAll(t, make([]api.Range, 1000), api.ErrFull)
	// That there are too many is told ahead of what is wrong with one of them.
	wantAll(t, with(spread(api.MaxRanges, 100), -1, -1), api.ErrFull)
	wantAll(t, slices.Repeat(list(9, 3), api.MaxRanges+1), api.ErrFull)
}

func TestR1CheckRange(t *testing.T) {
	for _, n := range outside {
		wantAll(t, list(n, n), api.ErrRange)
		wantAll(t, list(n, 3), api.ErrRange)
		wantAll(t, list(3, n), api.ErrRange)
		wantAll(t, list(100, 200, n, 3), api.ErrRange)
		wantAll(t, list(100, 200, 3, n), api.ErrRange)
		wantAll(t, with(spread(api.MaxRanges-1, 100), n, n), api.ErrRange)
	}
	wantAll(t, list(math.MaxInt, math.MinInt), api.ErrRange)
	wantAll(t, list(math.MinInt, math.MaxInt), api.ErrRange)
}

func TestR1CheckShape(t *testing.T) {
	for _, l := range [][]api.Range{
		list(1, 0), list(top, 0), list(6, 5), list(top, top-1),
		// None is missing between them, or they have numbers in common.
		list(7, 8, 4, 6), list(7, 8, 4, 7), list(7, 8, 4, 8), list(7, 8, 7, 8), list(7, 8, 4, 9), list(7, 8, 8, 8), list(1, 1, 0, 0), list(top, top, 0, top-1), list(top, top, top, top), list(0, 0, 0, 0),
		// From below.
		list(4, 5, 7, 8), list(0, 0, top, top), list(0, 5, 6, 8), list(20, 21, 4, 5, 10, 11),
		with(spread(api.MaxRanges-1, 100), 99, 99), with(spread(api.MaxRanges-1, 100), 5, 4),
	} {
		wantAll(t, l, api.ErrShape)
	}
}

func TestR1CheckTellsTheFirst(t *testing.T) {
	// Of one range what is no number is told ahead of how it lies; of several the first that has a fault.
	wantAll(t, list(top+1, 3), api.ErrRange)
	wantAll(t, list(7, 8, 7, top+1), api.ErrRange)
	wantAll(t, list(7, 8, -1, 9), api.ErrRange)
	wantAll(t, list(6, 5, -1, 3), api.ErrShape)
	wantAll(t, list(7, 8, 6, 6, 3, top+1), api.ErrShape)
	wantAll(t, list(-1, 3, 6, 5), api.ErrRange)
	wantBoth(t, list(6, 5), list(-1, -1), nil, api.ErrShape)
	wantBoth(t, list(-1, -1), list(6, 5), nil, api.ErrRange)
	wantBoth(t, list(6, 5), spread(api.MaxRanges+1, 0), nil, api.ErrShape)
	wantBoth(t, spread(api.MaxRanges+1, 0), list(6, 5), nil, api.ErrFull)
}

func TestR1Add(t *testing.T) {
	for _, c := range []struct {
		l     []api.Range
		n     int
		want  []api.Range
		isNew bool
	}{
		{nil, 0, list(0, 0), true},
		{nil, top, list(top, top), true},
		{nil, 7, list(7, 7), true},
		// It is there.
		{list(5, 8), 5, list(5, 8), false},
		{list(5, 8), 6, list(5, 8), false},
		{list(5, 8), 8, list(5, 8), false},
		{list(0, top), 0, list(0, top), false},
		{list(0, top), top, list(0, top), false},
		{list(20, 21, 5, 8), 7, list(20, 21, 5, 8), false},
		// Just above, just below, and with one missing between.
		{list(5, 8), 9, list(5, 9), true},
		{list(5, 8), 4, list(4, 8), true},
		{list(5, 8), 10, list(10, 10, 5, 8), true},
		{list(5, 8), 3, list(5, 8, 3, 3), true},
		{list(5, top-1), top, list(5, top), true},
		{list(1, 8), 0, list(0, 8), true},
		// Between two.
		{list(10, 12, 5, 8), 9, list(5, 12), true},
		{list(11, 12, 5, 8), 9, list(11, 12, 5, 9), true},
		{list(11, 12, 5, 8), 10, list(10, 12, 5, 8), true},
		{list(12, 12, 5, 8), 10, list(12, 12, 10, 10, 5, 8), true},
		{list(30, 31, 10, 12, 5, 8, 0, 1), 9, list(30, 31, 5, 12, 0, 1), true},
		{list(top, top, 0, top-2), top - 1, list(0, top), true},
		// Above and below all.
		{list(10, 12, 5, 8), top, list(top, top, 10, 12, 5, 8), true},
		{list(10, 12, 5, 8), 0, list(10, 12, 5, 8, 0, 0), true},
	} {
		wantAdd(t, c.l, c.n, c.want, c.isNew, api.OK)
	}
}

func TestR1AddFull(t *testing.T) {
	full := spread(api.MaxRanges, 10) // 10 11, 20 21 .. 120 121
	for _, n := range []int{0, 8, 13, 18, 55, 123, top} {
		wantAdd(t, full, n, nil, false, api.ErrFull)
		got, isNew, err := ranges.Add(full[1:], n)
		if len(got) != api.MaxRanges || !isNew || err != nil {
			t.Errorf("Add of a twelfth, %d = %v, %v, %v", n, got, isNew, err)
		}
	}
	wantAdd(t, full, 10, full, false, api.OK)
	wantAdd(t, full, 121, full, false, api.OK)
	wantAdd(t, full, 122, with(list(120, 122), flat(full[1:])...), true, api.OK)
	wantAdd(t, full, 9, with(full[:11], 9, 11), true, api.OK)
	narrow := with(full[:11], 18, 18)
	wantAdd(t, narrow, 19, with(full[:10], 18, 21), true, api.OK)
}

// flat has the ranges' Lo and Hi by turns.
func flat(l []api.Range) []int {
	var ends []int
	for _, r := range l {
		ends = append(ends, r.Lo, r.Hi)
	}
	return ends
}

func TestR1AddWrong(t *testing.T) {
	for _, n := range outside {
		wantAdd(t, nil, n, nil, false, api.ErrRange)
		wantAdd(t, list(5, 8), n, nil, false, api.ErrRange)
		wantAdd(t, list(0, top), n, nil, false, api.ErrRange)
		wantAdd(t, spread(api.MaxRanges, 10), n, nil, false, api.ErrRange)
		// What is wrong with the ranges is told ahead of n.
		wantAdd(t, list(8, 5), n, nil, false, api.ErrShape)
		wantAdd(t, spread(api.MaxRanges+1, 10), n, nil, false, api.ErrFull)
	}
}

func TestR1AddAndHas(t *testing.T) {
	// Just what was added is there, in whatever order.
	var l []api.Range
	in := map[int]bool{}
	for i := range 60 {
		n := i * 37 % 23
		isNew := !in[n]
		in[n] = true
		got, told, err := ranges.Add(l, n)
		if err != nil || told != isNew {
			t.Fatalf("Add(%v, %d) = %v, %v, %v; want %v", l, n, got, told, err, isNew)
		}
		l = got
		wantCheck(t, l, api.OK)
		wantCount(t, l, len(in), api.OK)
		for m := range 30 {
			wantHas(t, l, m, in[m], api.OK)
		}
	}
	if !slices.Equal(l, list(0, 22)) {
		t.Errorf("in the end %v; want one range", l)
	}
}

func TestR1Has(t *testing.T) {
	l := list(top, top, 20, 22, 5, 8, 0, 0)
	for _, n := range []int{top, 20, 21, 22, 5, 6, 8, 0} {
		wantHas(t, l, n, true, api.OK)
		wantHas(t, nil, n, false, api.OK)
	}
	for _, n := range []int{top - 1, 23, 19, 9, 4, 1, 1000} {
		wantHas(t, l, n, false, api.OK)
		wantHas(t, list(0, top), n, true, api.OK)
	}
	full := spread(api.MaxRanges, 0)
	wantHas(t, full, 0, true, api.OK)
	wantHas(t, full, 111, true, api.OK)
	wantHas(t, full, 112, false, api.OK)
}

func TestR1HasWrong(t *testing.T) {
	for _, n := range outside {
		wantHas(t, nil, n, false, api.ErrRange)
		wantHas(t, list(0, top), n, false, api.ErrRange)
		// Here n is told ahead of what is wrong with the ranges.
		wantHas(t, list(8, 5), n, false, api.ErrRange)
		wantHas(t, list(n, n), n, false, api.ErrRange)
		wantHas(t, spread(api.MaxRanges+1, 0), n, false, api.ErrRange)
	}
	// Ranges that are wrong behind the one that has it.
	wantHas(t, list(7, 8, 7, 8), 7, false, api.ErrShape)
}

func TestR1Count(t *testing.T) {
	wantCount(t, nil, 0, api.OK)
	wantCount(t, list(0, 0), 1, api.OK)
	wantCount(t, list(top, top), 1, api.OK)
	wantCount(t, list(0, top), top+1, api.OK)
	wantCount(t, list(top, top, 0, top-2), top, api.OK)
	wantCount(t, list(20, 22, 5, 8, 0, 0), 8, api.OK)
	wantCount(t, spread(api.MaxRanges, 0), 2*api.MaxRanges, api.OK)
}

func TestR1Both(t *testing.T) {
	for _, c := range []struct{ a, b, want []api.Range }{
		{nil, nil, nil},
		{list(5, 8), nil, list(5, 8)},
		{list(20, 21, 5, 8), nil, list(20, 21, 5, 8)},
		{list(5, 8), list(5, 8), list(5, 8)},
		{list(5, 8), list(6, 7), list(5, 8)},
		{list(5, 8), list(5, 6), list(5, 8)},
		{list(5, 8), list(7, 8), list(5, 8)},
		{list(5, 8), list(7, 12), list(5, 12)},
		{list(5, 8), list(8, 12), list(5, 12)},
		{list(5, 8), list(9, 12), list(5, 12)},
		{list(5, 8), list(10, 12), list(10, 12, 5, 8)},
		{list(5, 8), list(0, 20), list(0, 20)},
		{list(20, 21, 5, 8), list(30, 30, 12, 12), list(30, 30, 20, 21, 12, 12, 5, 8)},
		{list(20, 21, 10, 11, 0, 1), list(2, 19), list(0, 21)},
		{list(20, 21, 10, 11, 0, 1), list(3, 18), list(20, 21, 3, 18, 0, 1)},
		{list(20, 21, 10, 11, 0, 1), list(15, 30, 5, 5), list(15, 30, 10, 11, 5, 5, 0, 1)},
		{list(4, 40), list(30, 31, 20, 21, 2, 2), list(4, 40, 2, 2)},
		{list(0, 0), list(top, top), list(top, top, 0, 0)},
		{list(0, top), list(top, top, 5, 5, 0, 0), list(0, top)},
		{list(top, top), list(0, top-1), list(0, top)},
	} {
		wantBoth(t, c.a, c.b, c.want, api.OK)
		wantBoth(t, c.b, c.a, c.want, api.OK)
	}
}

func TestR1BothFull(t *testing.T) {
	full := spread(api.MaxRanges, 10)
	wantBoth(t, full, nil, full, api.OK)
	wantBoth(t, full, full, full, api.OK)
	// Just as many, of both, and of one in between.
	wantBoth(t, full[:6], full[6:], full, api.OK)
	wantBoth(t, full[6:], full[:6], full, api.OK)
	wantBoth(t, full[:7], full[5:], full, api.OK)
	wantBoth(t, full[:11], list(0, 0), with(full[:11], 0, 0), api.OK)
	for _, more := range [][]api.Range{list(0, 0), list(top, top), list(15, 15), spread(api.MaxRanges, 15), spread(api.MaxRanges, 1000)} {
		wantBoth(t, full, more, nil, api.ErrFull)
		wantBoth(t, more, full, nil, api.ErrFull)
	}
	// More than may be at first, but they become one.
	wantBoth(t, full, list(0, 200), list(0, 200), api.OK)
	wantBoth(t, list(12, 19), full, with(full[:10], 10, 21), api.OK)
	wantBoth(t, full, spread(api.MaxRanges, 12), widened(full), api.OK)
}

// widened has each range by two numbers more above.
func widened(l []api.Range) []api.Range {
	l = slices.Clone(l)
	for i := range l {
		l[i].Hi += 2
	}
	return l
}

func TestR1BothHasWhatEitherHas(t *testing.T) {
	// All sets of the numbers below 7, against all others.
	for a := range 1 << 7 {
		for b := range 1 << 7 {
			wantBoth(t, ofBits(a), ofBits(b), ofBits(a|b), api.OK)
		}
	}
}

// ofBits has the ranges of the numbers whose bits are set.
func ofBits(bits int) []api.Range {
	var l []api.Range
	for n := 7; n >= 0; n-- {
		switch {
		case bits>>n&1 == 0:
		case bits>>(n+1)&1 == 1:
			l[len(l)-1].Lo = n
		default:
			l = append(l, api.Range{Lo: n, Hi: n})
		}
	}
	return l
}

func TestR1NothingIsKept(t *testing.T) {
	// A list that is changed afterwards does not change what came out of it, nor what comes next.
	l := list(20, 21, 5, 8)
	added, _, _ := ranges.Add(l, 6)
	both, _ := ranges.Both(l, nil)
	scribble(l)
	if !slices.Equal(added, list(20, 21, 5, 8)) || !slices.Equal(both, list(20, 21, 5, 8)) {
		t.Errorf("what came out changed: %v, %v", added, both)
	}
	scribble(added)
	scribble(both)
	wantAdd(t, list(20, 21, 5, 8), 6, list(20, 21, 5, 8), false, api.OK)
}
