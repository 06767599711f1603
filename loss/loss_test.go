package loss_test

import (
	"math"
	"slices"
	"testing"

	"wanderwire/api"
	"wanderwire/loss"
	"wanderwire/plain"
)

const (
	top  = api.MaxNumber
	late = api.MaxTime
	big  = api.MaxPacket
)

// What is no number, no time, no size, and no wait; some would be right if only their last bits were looked at.
var (
	noNumbers = []int{-1, -2, -top, math.MinInt, math.MinInt + 1, top + 1, top + 2, 1 << 32, 1<<32 + 5, math.MaxInt - 1, math.MaxInt}
	noTimes   = []int{-1, -2, -late, math.MinInt, math.MinInt + 1, late + 1, late + 2, 1 << 32, 1<<32 + 5, math.MaxInt - 1, math.MaxInt}
	noSizes   = []int{0, -1, -2, -big, math.MinInt, math.MinInt + 1, big + 1, big + 2, 256 + 5, 1 << 32, 1<<32 + 5, math.MaxInt - 1, math.MaxInt}
	noWaits   = append([]int{0}, noTimes...)
)

// flight of packets, from Number, Time and Size by turns.
func flight(words ...int) []api.Sent {
	var l []api.Sent
	for w := range slices.Chunk(words, 3) {
		l = append(l, api.Sent{Number: w[0], Time: w[1], Size: w[2]})
	}
	return l
}

// came has ranges, from Lo and Hi by turns.
func came(ends ...int) []api.Range {
	var l []api.Range
	for e := range slices.Chunk(ends, 2) {
		l = append(l, api.Range{Lo: e[0], Hi: e[1]})
	}
	return l
}

// many packets, three numbers and five moments apart, the first of them at lo.
func many(n, lo int) []api.Sent {
	var l []api.Sent
	for i := range n {
		l = append(l, api.Sent{Number: lo + 3*i, Time: 5 * i, Size: big - i})
	}
	return l
}

// with has the packets with others behind them.
func with(l []api.Sent, words ...int) []api.Sent { return slices.Concat(l, flight(words...)) }

// guarded lays a list into longer memory, and tells whether all of it still is as it was.
func guarded[T comparable](l []T, mark T) ([]T, func() bool) {
	room := append(slices.Clone(l), mark, mark, mark)
	before := slices.Clone(room)
	return room[:len(l)], func() bool { return slices.Equal(room, before) }
}

func guardedFlight(l []api.Sent) ([]api.Sent, func() bool) {
	return guarded(l, api.Sent{Number: -77, Time: -78, Size: -79})
}

func guardedRanges(l []api.Range) ([]api.Range, func() bool) {
	return guarded(l, api.Range{Lo: -77, Hi: -78})
}

// scribble over an answer, and over what lies behind it, so that shared memory shows.
func scribble[T any](l []T, mark T) {
	l = l[:cap(l)]
	for i := range l {
		l[i] = mark
	}
}

func wantCheck(t *testing.T, l []api.Sent, want api.Errno) {
	t.Helper()
	g, same := guardedFlight(l)
	if err := loss.Check(g); plain.Told(err) != want {
		t.Errorf("Check(%v) = %v; want %v", l, err, want)
	}
	if !same() {
		t.Errorf("Check(%v) wrote into it", l)
	}
}

func wantWay(t *testing.T, l []api.Sent, want int, wantErr api.Errno) {
	t.Helper()
	g, same := guardedFlight(l)
	got, err := loss.Way(g)
	if got != want || plain.Told(err) != wantErr {
		t.Errorf("Way(%v) = %d, %v; want %d, %v", l, got, err, want, wantErr)
	}
	if !same() {
		t.Errorf("Way(%v) wrote into it", l)
	}
}

// wantLeft twice, as what the first call gave is written over.
func wantLeft(t *testing.T, l []api.Sent, acks []api.Range, want []api.Sent, wantErr api.Errno) {
	t.Helper()
	g, same := guardedFlight(l)
	a, sameAcks := guardedRanges(acks)
	for range 2 {
		got, err := loss.Left(g, a)
		if !slices.Equal(got, want) || plain.Told(err) != wantErr || err != nil && got != nil {
			t.Errorf("Left(%v, %v) = %v, %v; want %v, %v", l, acks, got, err, want, wantErr)
		}
		scribble(got, api.Sent{Number: -1, Time: -2, Size: -3})
		if !same() || !sameAcks() {
			t.Errorf("Left(%v, %v) wrote into a list, or shares its memory", l, acks)
		}
	}
}

// wantLost twice, as what the first call gave is written over.
func wantLost(t *testing.T, l []api.Sent, acks []api.Range, now, wait int, want []int, wantErr api.Errno) {
	t.Helper()
	g, same := guardedFlight(l)
	a, sameAcks := guardedRanges(acks)
	for range 2 {
		got, err := loss.Lost(g, a, now, wait)
		if !slices.Equal(got, want) || plain.Told(err) != wantErr || err != nil && got != nil {
			t.Errorf("Lost(%v, %v, %d, %d) = %v, %v; want %v, %v", l, acks, now, wait, got, err, want, wantErr)
		}
		scribble(got, -1)
		if !same() || !sameAcks() {
			t.Errorf("Lost(%v, %v, %d, %d) wrote into a list, or shares its memory", l, acks, now, wait)
		}
	}
}

// wantAll tell what is wrong with the packets, whatever else is wrong, and nothing else.
func wantAll(t *testing.T, l []api.Sent, want api.Errno) {
	t.Helper()
	wantCheck(t, l, want)
	wantWay(t, l, 0, want)
	for _, acks := range [][]api.Range{nil, came(0, top), came(6, 5), came(-1, 3), make([]api.Range, api.MaxRanges+1)} {
		wantLeft(t, l, acks, nil, want)
		wantLost(t, l, acks, 5, 1, nil, want)
		wantLost(t, l, acks, -1, 1, nil, want)
		wantLost(t, l, acks, 5, 0, nil, want)
	}
}

func TestL1Check(t *testing.T) {
	for _, l := range [][]api.Sent{
		nil, {},
		flight(0, 0, 1), flight(top, late, big), flight(0, late, 1), flight(top, 0, big), flight(5, 7, 30),
		flight(5, 7, 30, 6, 8, 31), flight(5, 7, 30, 6, 8, 29), flight(5, 7, 30, 60, 80, 30),
		flight(5, 7, 30, 6, 7, 30), flight(5, 0, 30, 6, 0, 30, 7, 0, 30), flight(5, late, 30, 6, late, 30),
		flight(0, 0, 1, top, late, big), flight(0, 0, big, 1, late, 1), flight(top-1, 0, 1, top, 0, 1),
		many(api.MaxFlight-1, 0), many(api.MaxFlight, 0), many(api.MaxFlight, top-3*(api.MaxFlight-1)),
	} {
		wantCheck(t, l, api.OK)
	}
}

func TestL1CheckFull(t *testing.T) {
	wantAll(t, many(api.MaxFlight+1, 0), api.ErrFull)
	wantAll(t, many(api.MaxFlight+2, 0), api.ErrFull)
	wantAll(t, make([]api.Sent, 1000), api.ErrFull)
	// That there are too many is told ahead of what is wrong with one of them.
	wantAll(t, with(many(api.MaxFlight, 0), -1, -1, 0), api.ErrFull)
	wantAll(t, with(many(api.MaxFlight, 0), 0, 0, 1), api.ErrFull)
	wantAll(t, slices.Repeat(flight(5, 7, 30), api.MaxFlight+1), api.ErrFull)
	wantAll(t, slices.Repeat(flight(-1, 7, 30), api.MaxFlight+1), api.ErrFull)
}

func TestL1CheckRange(t *testing.T) {
	row := many(api.MaxFlight-1, 0)
	for _, n := range noNumbers {
		wantAll(t, flight(n, 7, 30), api.ErrRange)
		wantAll(t, flight(3, 7, 30, n, 8, 30), api.ErrRange)
		wantAll(t, flight(n, 7, 30, 3, 8, 30), api.ErrRange)
		wantAll(t, with(row, n, 900, 30), api.ErrRange)
	}
	for _, n := range noTimes {
		wantAll(t, flight(3, n, 30), api.ErrRange)
		wantAll(t, flight(3, 7, 30, 4, n, 30), api.ErrRange)
		wantAll(t, flight(3, n, 30, 4, 8, 30), api.ErrRange)
		wantAll(t, with(row, 900, n, 30), api.ErrRange)
	}
	for _, n := range noSizes {
		wantAll(t, flight(3, 7, n), api.ErrRange)
		wantAll(t, flight(3, 7, 30, 4, 8, n), api.ErrRange)
		wantAll(t, flight(3, 7, n, 4, 8, 30), api.ErrRange)
		wantAll(t, with(row, 900, 900, n), api.ErrRange)
	}
	wantAll(t, make([]api.Sent, 1), api.ErrRange)
	wantAll(t, flight(math.MinInt, math.MaxInt, math.MinInt), api.ErrRange)
}

func TestL1CheckShape(t *testing.T) {
	for _, l := range [][]api.Sent{
		// The same number again, and one below, however much later.
		flight(5, 7, 30, 5, 7, 30), flight(5, 7, 30, 5, 8, 31), flight(5, 7, 30, 4, 7, 30), flight(5, 7, 30, 4, 8, 30),
		flight(top, 0, 30, 0, late, 30), flight(top, 7, 30, top, 7, 30), flight(0, 7, 30, 0, 7, 30), flight(1, 7, 30, 0, 7, 30),
		// An earlier time, however much above.
		flight(5, 7, 30, 6, 6, 30), flight(0, late, 30, top, 0, 30), flight(5, 1, 30, 6, 0, 30), flight(5, late, 30, 6, late-1, 30),
		flight(5, 7, 30, 4, 6, 30),
		// Only the one just ahead counts.
		flight(5, 7, 30, 6, 8, 30, 6, 9, 30), flight(1, 7, 30, 6, 8, 30, 5, 9, 30), flight(1, 3, 30, 6, 8, 30, 7, 7, 30),
		flight(5, 7, 30, 5, 8, 30, 6, 9, 30), flight(5, 7, 30, 6, 6, 30, 7, 9, 30),
		with(many(api.MaxFlight-1, 0), 84, 900, 30), with(many(api.MaxFlight-1, 0), 900, 139, 30),
	} {
		wantAll(t, l, api.ErrShape)
	}
	last := with(many(api.MaxFlight-1, 0), 85, 140, 30)
	wantCheck(t, last, api.OK)
}

func TestL1CheckTellsTheFirst(t *testing.T) {
	// Of one packet what is out of range is told ahead of how it stands; of several the first that has a fault.
	wantAll(t, flight(5, 7, 30, 5, 8, 0), api.ErrRange)
	wantAll(t, flight(5, 7, 30, 4, late+1, 30), api.ErrRange)
	wantAll(t, flight(5, 7, 30, -1, 8, 30), api.ErrRange)
	wantAll(t, flight(5, 7, 30, 6, -1, 30), api.ErrRange)
	wantAll(t, flight(5, 7, 30, 6, 6, big+1), api.ErrRange)
	wantAll(t, flight(5, 7, 30, top+1, 6, 30), api.ErrRange)
	wantAll(t, flight(5, 7, 30, 5, 8, 30, 6, 9, 0), api.ErrShape)
	wantAll(t, flight(5, 7, 30, 6, 6, 30, -1, 9, 30), api.ErrShape)
	wantAll(t, flight(5, 7, 30, 4, 8, 30, 6, late+1, 30), api.ErrShape)
	wantAll(t, flight(5, 7, 0, 5, 8, 30), api.ErrRange)
	wantAll(t, flight(5, 7, 30, 6, 8, 0, 6, 9, 30), api.ErrRange)
}

func TestL1Way(t *testing.T) {
	wantWay(t, nil, 0, api.OK)
	wantWay(t, []api.Sent{}, 0, api.OK)
	wantWay(t, flight(0, 0, 1), 1, api.OK)
	wantWay(t, flight(top, late, big), big, api.OK)
	wantWay(t, flight(5, 7, 30, 6, 7, 31, 9, 70, 100), 161, api.OK)
	wantWay(t, many(api.MaxFlight, 0), 5565, api.OK) // 200 + 199 .. + 171
	full := many(api.MaxFlight, 0)
	for i := range full {
		full[i].Size = big
	}
	wantWay(t, full, api.MaxFlight*big, api.OK)
}

func TestL1Left(t *testing.T) {
	three := flight(5, 7, 30, 8, 7, 31, 11, 90, 32)
	for _, c := range []struct {
		l    []api.Sent
		acks []api.Range
		want []api.Sent
	}{
		{nil, nil, nil},
		{[]api.Sent{}, []api.Range{}, nil},
		{nil, came(0, top), nil},
		{three, nil, three},
		{three, []api.Range{}, three},
		{three, came(0, top), nil},
		{three, came(5, 11), nil},
		{three, came(6, 11), three[:1]},
		{three, came(5, 10), three[2:]},
		{three, came(6, 10), flight(5, 7, 30, 11, 90, 32)},
		{three, came(8, 8), flight(5, 7, 30, 11, 90, 32)},
		{three, came(11, 11, 5, 5), three[1:2]},
		{three, came(11, 11, 8, 8, 5, 5), nil},
		// Numbers that were never sent: below, between and above.
		{three, came(0, 4), three},
		{three, came(12, top), three},
		{three, came(12, top, 9, 10, 6, 7, 0, 4), three},
		// A range that begins below a packet's number, or ends above it.
		{three, came(0, 5), three[1:]},
		{three, came(11, top), three[:2]},
		{three, came(11, top, 0, 5), three[1:2]},
		{three, came(4, 6), three[1:]},
		// The edges of what numbers there are.
		{flight(0, 0, 1, top, late, big), came(top, top), flight(0, 0, 1)},
		{flight(0, 0, 1, top, late, big), came(0, 0), flight(top, late, big)},
		{flight(0, 0, 1, top, late, big), came(1, top-1), flight(0, 0, 1, top, late, big)},
	} {
		wantLeft(t, c.l, c.acks, c.want, api.OK)
	}
}

func TestL1LeftOfManyByMany(t *testing.T) {
	l := many(api.MaxFlight, 0) // 0, 3, 6 .. 87
	var acks []api.Range
	for i := range api.MaxRanges {
		acks = append(acks, api.Range{Lo: 86 - 6*i, Hi: 87 - 6*i})
	}
	var want []api.Sent
	for i, s := range l {
		if i%2 == 0 || s.Number < 21 {
			want = append(want, s)
		}
	}
	wantLeft(t, l, acks, want, api.OK)
}

func TestL1LostAhead(t *testing.T) {
	one := flight(10, 7, 30)
	// Just sent, so that only what came three above it, or more, counts.
	for _, c := range []struct {
		acks []api.Range
		want []int
	}{
		{nil, nil},
		{came(11, 11), nil},
		{came(12, 12), nil},
		{came(11, 12), nil},
		{came(13, 13), []int{10}},
		{came(11, 13), []int{10}},
		{came(12, 13), []int{10}},
		{came(14, 14), []int{10}},
		{came(top, top), []int{10}},
		{came(11, top), []int{10}},
		{came(13, 13, 11, 11), []int{10}},
		{came(12, 12, 0, 9), nil},
		{came(13, 13, 0, 9), []int{10}},
		// What came is never lost.
		{came(10, 13), nil},
		{came(13, 13, 10, 10), nil},
		{came(13, 13, 10, 11), nil},
		{came(0, top), nil},
	} {
		wantLost(t, one, c.acks, 7, 1, c.want, api.OK)
		wantLost(t, one, c.acks, 8, 2, c.want, api.OK)
		wantLost(t, one, c.acks, late, late, c.want, api.OK)
	}
	wantLost(t, flight(top-3, 0, 1), came(top, top), 0, 1, []int{top - 3}, api.OK)
	wantLost(t, flight(top-2, 0, 1), came(top, top), 0, 1, nil, api.OK)
	wantLost(t, flight(0, 0, 1), came(2, 2), 0, 1, nil, api.OK)
	wantLost(t, flight(0, 0, 1), came(3, 3), 0, 1, []int{0}, api.OK)
}

func TestL1LostTooLong(t *testing.T) {
	one := flight(10, 100, 30)
	for _, acks := range [][]api.Range{came(11, 11), came(12, 12), came(11, 12), came(11, 11, 0, 9)} {
		// Sent just wait ahead of now, one less, and one more.
		wantLost(t, one, acks, 150, 50, []int{10}, api.OK)
		wantLost(t, one, acks, 150, 51, nil, api.OK)
		wantLost(t, one, acks, 149, 50, nil, api.OK)
		wantLost(t, one, acks, 150, 49, []int{10}, api.OK)
		wantLost(t, one, acks, 151, 50, []int{10}, api.OK)
		wantLost(t, one, acks, 101, 1, []int{10}, api.OK)
		wantLost(t, one, acks, 100, 1, nil, api.OK)
		// Now is ahead of when it was sent.
		wantLost(t, one, acks, 99, 1, nil, api.OK)
		wantLost(t, one, acks, 50, 50, nil, api.OK)
		wantLost(t, one, acks, 0, 1, nil, api.OK)
		wantLost(t, one, acks, 0, 100, nil, api.OK)
		wantLost(t, one, acks, 0, late, nil, api.OK)
		wantLost(t, one, acks, late, late-100, []int{10}, api.OK)
		wantLost(t, one, acks, late, late-99, nil, api.OK)
		wantLost(t, one, acks, late, 1, []int{10}, api.OK)
		wantLost(t, one, acks, late, late, nil, api.OK)
	}
	// One that is newer than all that came is not lost, however long ago it was sent; nor one that came.
	for _, acks := range [][]api.Range{nil, came(9, 9), came(0, 9), came(0, 0), came(10, 10), came(0, 10), came(11, 11, 10, 10)[1:]} {
		wantLost(t, one, acks, 150, 50, nil, api.OK)
		wantLost(t, one, acks, late, 1, nil, api.OK)
	}
	wantLost(t, one, came(10, 11), late, 1, nil, api.OK)
	wantLost(t, one, came(12, 12, 10, 10), late, 1, nil, api.OK)
	wantLost(t, flight(3, 0, 1), came(4, 4), late, late, []int{3}, api.OK)
	wantLost(t, flight(3, 1, 1), came(4, 4), late, late, nil, api.OK)
	wantLost(t, flight(3, late, 1), came(5, 5), late, 1, nil, api.OK)
	wantLost(t, flight(3, late-1, 1), came(5, 5), late, 1, []int{3}, api.OK)
	wantLost(t, flight(top-1, 0, 1), came(top, top), 1, 1, []int{top - 1}, api.OK)
	wantLost(t, flight(top, 0, 1), came(0, top-1), late, 1, nil, api.OK)
	wantLost(t, flight(0, 0, 1), came(1, 1), 1, 1, []int{0}, api.OK)
}

// Numbers that were never sent count as well as those that were.
func TestL1LostOfSeveral(t *testing.T) {
	l := flight(1, 10, 5, 4, 10, 6, 6, 20, 7, 7, 30, 8, 8, 40, 9, 10, 50, 9)
	for _, c := range []struct {
		acks      []api.Range
		now, wait int
		want      []int
	}{
		{nil, late, 1, nil},
		{came(8, 8), 50, 100, []int{1, 4}},
		{came(8, 8), 50, 30, []int{1, 4, 6}},
		{came(8, 8), 50, 31, []int{1, 4}},
		{came(8, 8), 50, 20, []int{1, 4, 6, 7}},
		{came(8, 8), late, 1, []int{1, 4, 6, 7}},
		{came(8, 8, 4, 4), 50, 20, []int{1, 6, 7}},
		{came(8, 8, 1, 6), 50, 20, []int{7}},
		{came(9, 9), 50, 10, []int{1, 4, 6, 7, 8}},
		{came(9, 9), 50, 11, []int{1, 4, 6, 7}},
		{came(9, 9), 50, 21, []int{1, 4, 6}},
		{came(11, 13), 50, 100, []int{1, 4, 6, 7, 8, 10}},
		{came(11, 12), 50, 100, []int{1, 4, 6, 7, 8}},
		{came(11, 12, 5, 6), 50, 100, []int{1, 4, 7, 8}},
		{came(5, 5), 20, 10, []int{1, 4}},
		{came(5, 5), 19, 10, []int{1}},
		{came(5, 5), 0, 1, []int{1}},
		{came(2, 2), 20, 10, []int{1}},
		{came(2, 2), 19, 10, nil},
		{came(0, 0), late, 1, nil},
		{came(0, top), late, 1, nil},
		{came(top, top), 0, late, []int{1, 4, 6, 7, 8, 10}},
	} {
		wantLost(t, l, c.acks, c.now, c.wait, c.want, api.OK)
	}
	wantLost(t, nil, came(0, top), late, 1, nil, api.OK)
	wantLost(t, nil, nil, 0, late, nil, api.OK)
	full := many(api.MaxFlight, 0)
	var all []int
	for _, s := range full {
		all = append(all, s.Number)
	}
	wantLost(t, full, came(90, 90), 0, 1, all, api.OK)
	wantLost(t, full, came(89, 89), 0, 1, all[:api.MaxFlight-1], api.OK)
	wantLost(t, full, came(89, 89), 145, 1, all[:api.MaxFlight-1], api.OK)
	wantLost(t, full, came(89, 89), 146, 1, all, api.OK)
}

func TestL1WrongAcks(t *testing.T) {
	tooMany := make([]api.Range, 0, api.MaxRanges+1)
	for i := range api.MaxRanges + 1 {
		tooMany = append(tooMany, api.Range{Lo: 200 - 10*i, Hi: 200 - 10*i})
	}
	for _, c := range []struct {
		acks []api.Range
		want api.Errno
	}{
		{tooMany, api.ErrFull},
		{append(slices.Clone(tooMany[:api.MaxRanges]), api.Range{Lo: -1, Hi: -1}), api.ErrFull},
		{came(-1, 3), api.ErrRange},
		{came(3, top+1), api.ErrRange},
		{came(math.MinInt, math.MaxInt), api.ErrRange},
		{came(20, 21, 4, -1), api.ErrRange},
		{came(6, 5), api.ErrShape},
		{came(4, 5, 7, 8), api.ErrShape},
		{came(7, 8, 4, 6), api.ErrShape},
		{came(6, 5, -1, 3), api.ErrShape},
		{came(-1, 3, 6, 5), api.ErrRange},
	} {
		for _, l := range [][]api.Sent{nil, flight(5, 7, 30), flight(5, 7, 30, 6, 8, 30), many(api.MaxFlight, 0)} {
			wantLeft(t, l, c.acks, nil, c.want)
			wantLost(t, l, c.acks, 5, 1, nil, c.want)
			// Acks are told ahead of now and wait.
			wantLost(t, l, c.acks, -1, 1, nil, c.want)
			wantLost(t, l, c.acks, late+1, 1, nil, c.want)
			wantLost(t, l, c.acks, 5, 0, nil, c.want)
			wantLost(t, l, c.acks, 5, late+1, nil, c.want)
		}
	}
	wantLeft(t, flight(200, 7, 30), tooMany[:api.MaxRanges], nil, api.OK)
	wantLost(t, flight(5, 7, 30), tooMany[:api.MaxRanges], 7, 1, []int{5}, api.OK)
}

func TestL1WrongTimes(t *testing.T) {
	for _, l := range [][]api.Sent{nil, flight(5, 7, 30), many(api.MaxFlight, 0)} {
		for _, acks := range [][]api.Range{nil, came(6, 6), came(200, 200), came(0, top)} {
			for _, n := range noTimes {
				wantLost(t, l, acks, n, 1, nil, api.ErrRange)
				wantLost(t, l, acks, n, late, nil, api.ErrRange)
			}
			for _, n := range noWaits {
				wantLost(t, l, acks, 0, n, nil, api.ErrRange)
				wantLost(t, l, acks, late, n, nil, api.ErrRange)
				wantLost(t, l, acks, n, n, nil, api.ErrRange)
			}
		}
	}
}

// TestL1WrittenOver: what is given out is written to, and one call's answer is not another's.
func TestL1WrittenOver(t *testing.T) {
	l, acks := many(6, 0), came(20, 20)
	first, _ := loss.Left(l, acks)
	second, _ := loss.Left(l, acks)
	lost, _ := loss.Lost(l, acks, 9, 9)
	again, _ := loss.Lost(l, acks, 9, 9)
	scribble(first, api.Sent{})
	scribble(lost, -1)
	if !slices.Equal(second, many(6, 0)) || !slices.Equal(again, []int{0, 3, 6, 9, 12, 15}) {
		t.Errorf("Left's answer became %v, Lost's %v", second, again)
	}
	if !slices.Equal(l, many(6, 0)) {
		t.Errorf("the packets became %v", l)
	}
	// What was handed in is written to, and what was given out stays as it was.
	scribble(l, api.Sent{})
	scribble(acks, api.Range{})
	if !slices.Equal(second, many(6, 0)) || !slices.Equal(again, []int{0, 3, 6, 9, 12, 15}) {
		t.Errorf("Left's answer became %v, Lost's %v", second, again)
	}
}

// draw gives numbers below n, the same ones at each run.
type draw int

func (d *draw) below(n int) int {
	*d = (*d*1103515245 + 12345) & (1<<31 - 1)
	return int(*d>>12) % n
}

// drawn packets, some wrong, and the ranges of a plain row of numbers that came, some wrong.
func drawn(d *draw) ([]api.Sent, []api.Range) {
	var l []api.Sent
	number, at := d.below(4), d.below(20)
	for range d.below(9) {
		l = append(l, api.Sent{Number: number, Time: at, Size: 1 + d.below(big)})
		number += 1 + d.below(3)
		at += d.below(12)
		if d.below(40) == 0 {
			number, at = number-2, at-3
		}
	}
	var acks []api.Range
	hi := d.below(34)
	for hi >= 0 && d.below(4) > 0 {
		lo := max(hi-d.below(4), 0)
		acks = append(acks, api.Range{Lo: lo, Hi: hi})
		hi = lo - 2 - d.below(5)
	}
	if len(acks) > 0 && d.below(30) == 0 {
		acks[len(acks)-1].Lo -= 2
	}
	return l, acks
}

// modelCheck of packets, field by field.
func modelCheck(l []api.Sent) api.Errno {
	for i, s := range l {
		if s.Number < 0 || s.Time < 0 {
			return api.ErrRange
		}
		if i > 0 && (s.Number <= l[i-1].Number || s.Time < l[i-1].Time) {
			return api.ErrShape
		}
	}
	return api.OK
}

// numbers that ranges have, one by one, which is enough for short ones.
func numbers(acks []api.Range) []int {
	var all []int
	for _, r := range acks {
		for n := r.Lo; n <= r.Hi; n++ {
			all = append(all, n)
		}
	}
	return all
}

// modelLost goes over all that came, number by number.
func modelLost(l []api.Sent, acks []api.Range, now, wait int) (left []api.Sent, lost []int) {
	all := numbers(acks)
	for _, s := range l {
		if slices.Contains(all, s.Number) {
			continue
		}
		left = append(left, s)
		isLost := false
		for _, n := range all {
			isLost = isLost || n-s.Number >= 3 || n > s.Number && s.Time+wait <= now
		}
		if isLost {
			lost = append(lost, s.Number)
		}
	}
	return left, lost
}

func TestL1AsAModelHasIt(t *testing.T) {
	var d draw = 11
	wrong, wrongAcks, none, some, every := 0, 0, 0, 0, 0
	for range 20000 {
		l, acks := drawn(&d)
		now, wait := d.below(70), 1+d.below(40)
		left, lost := modelLost(l, acks, now, wait)
		sum := 0
		for _, s := range l {
			sum += s.Size
		}
		wantErr := modelCheck(l)
		wantErrBoth := wantErr
		switch {
		case wantErr != api.OK:
			wrong++
			sum, left, lost = 0, nil, nil
		case len(acks) > 0 && acks[len(acks)-1].Lo < 0:
			wrongAcks++
			wantErrBoth, left, lost = api.ErrRange, nil, nil
		case len(lost) == 0:
			none++
		case len(lost) < len(left):
			some++
		default:
			every++
		}
		wantCheck(t, l, wantErr)
		wantWay(t, l, sum, wantErr)
		wantLeft(t, l, acks, left, wantErrBoth)
		wantLost(t, l, acks, now, wait, lost, wantErrBoth)
		if t.Failed() {
			return
		}
	}
	for i, n := range []int{wrong, wrongAcks, none, some, every} {
		if n < 100 {
			t.Errorf("only %d of the kind %d came", n, i)
		}
	}
}
