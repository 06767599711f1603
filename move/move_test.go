package move_test

import (
	"fmt"
	"math"
	"strings"
	"testing"

	"wanderwire/api"
	"wanderwire/move"
	"wanderwire/plain"
)

// The numbers as the document has them, so that a change of one of them shows.
const (
	paths     = 4
	maxIDs    = 8
	maxPacket = 200
	maxTime   = 100_000
	maxOpen   = 8
	// ever: so many IDs are offered at most.
	ever = 100
	top  = 1<<30 - 1
)

// What no Mover has; some would be right if only their last bits were looked at.
var (
	noLimits  = []int{0, -1, -2, -maxIDs, -1 << 32, math.MinInt, math.MinInt + 1, maxIDs + 1, maxIDs + 2, 256 + 1, 1 << 32, 1<<32 + 5, math.MaxInt - 1, math.MaxInt}
	noPaths   = []int{-1, -2, -paths, -256, math.MinInt, math.MinInt + 1, paths, paths + 1, 256, 257, 1 << 32, 1<<32 + 1, math.MaxInt - 1, math.MaxInt}
	noNumbers = []int{-1, -2, -top, math.MinInt, math.MinInt + 1, top + 1, top + 2, 1 << 31, 1 << 32, 1<<32 + 5, math.MaxInt - 1, math.MaxInt}
	noTimes   = []int{-1, -2, -maxTime, math.MinInt, math.MinInt + 1, maxTime + 1, maxTime + 2, top, 1 << 32, 1<<32 + 5, math.MaxInt - 1, math.MaxInt}
	noCounts  = []int{-1, -2, -maxPacket, math.MinInt, math.MinInt + 1, maxPacket + 1, maxPacket + 2, 256, 257, 1 << 32, 1<<32 + 5, math.MaxInt - 1, math.MaxInt}
)

// fresh makes a Mover.
func fresh(t *testing.T, limit int) *move.Mover {
	t.Helper()
	m, err := move.New(limit)
	if m == nil || err != nil {
		t.Fatalf("New(%d) = %v, %v", limit, m, err)
	}
	return m
}

// named makes one of limit to which so many IDs were offered, of the names 50 on.
func named(t *testing.T, limit, n int) *move.Mover {
	t.Helper()
	m := fresh(t, limit)
	for i := range n {
		wantOffer(t, m, 50+i, api.OK)
	}
	return m
}

// prove a path: from now on it is Known, by one byte that came.
func prove(t *testing.T, m *move.Mover, i int) {
	t.Helper()
	wantCame(t, m, i, 1, api.OK)
	wantAsk(t, m, i, 0, 0, api.OK)
	wantAnswer(t, m, i, 0, 0, 0, true)
}

// roaming makes one as named does, of which all paths are Known.
func roaming(t *testing.T, limit, n int) *move.Mover {
	t.Helper()
	m := named(t, limit, n)
	for i := 1; i < paths; i++ {
		prove(t, m, i)
	}
	return m
}

func wantOffer(t *testing.T, m *move.Mover, name int, want api.Errno) {
	t.Helper()
	if err := m.Offer(name); plain.Told(err) != want {
		t.Errorf("Offer(%d) = %v; want %v", name, err, want)
	}
}

func wantCame(t *testing.T, m *move.Mover, i, n int, want api.Errno) {
	t.Helper()
	if err := m.Came(i, n); plain.Told(err) != want {
		t.Errorf("Came(%d, %d) = %v; want %v", i, n, err, want)
	}
}

func wantSend(t *testing.T, m *move.Mover, i, n int, want api.Errno) {
	t.Helper()
	if err := m.Send(i, n); plain.Told(err) != want {
		t.Errorf("Send(%d, %d) = %v; want %v", i, n, err, want)
	}
}

func wantAsk(t *testing.T, m *move.Mover, i, number, at int, want api.Errno) {
	t.Helper()
	if err := m.Ask(i, number, at); plain.Told(err) != want {
		t.Errorf("Ask(%d, %d, %d) = %v; want %v", i, number, at, err, want)
	}
}

func wantAnswer(t *testing.T, m *move.Mover, i, number, at, limit int, want bool) {
	t.Helper()
	if is, err := m.Answer(i, number, at, limit); is != want || err != nil {
		t.Errorf("Answer(%d, %d, %d, %d) = %v, %v; want %v", i, number, at, limit, is, err, want)
	}
}

// wantNoAnswer: nothing is told but the error.
func wantNoAnswer(t *testing.T, m *move.Mover, i, number, at, limit int) {
	t.Helper()
	if is, err := m.Answer(i, number, at, limit); is || plain.Told(err) != api.ErrRange {
		t.Errorf("Answer(%d, %d, %d, %d) = %v, %v; want ErrRange", i, number, at, limit, is, err)
	}
}

func wantMove(t *testing.T, m *move.Mover, i int, want api.Errno) {
	t.Helper()
	if err := m.Move(i); plain.Told(err) != want {
		t.Errorf("Move(%d) = %v; want %v", i, err, want)
	}
}

func wantWhere(t *testing.T, m *move.Mover, path, seq int) {
	t.Helper()
	// It may be asked as often as one likes.
	for range 2 {
		if gotPath, gotSeq, err := m.Where(); gotPath != path || gotSeq != seq || err != nil {
			t.Errorf("Where() = %d, %d, %v; want %d, %d", gotPath, gotSeq, err, path, seq)
		}
	}
}

// wantNowhere: there is no ID to go by, and nothing is told but that.
func wantNowhere(t *testing.T, m *move.Mover) {
	t.Helper()
	for range 2 {
		if path, seq, err := m.Where(); path != 0 || seq != 0 || plain.Told(err) != api.ErrNone {
			t.Errorf("Where() = %d, %d, %v; want ErrNone", path, seq, err)
		}
	}
}

func wantPath(t *testing.T, m *move.Mover, i, in, out int, known bool) {
	t.Helper()
	want := api.Path{In: in, Out: out, Known: known}
	for range 2 {
		if got, err := m.Path(i); got != want || err != nil {
			t.Errorf("Path(%d) = %v, %v; want %v", i, got, err, want)
		}
	}
}

// look at a Mover, without changing it.
func look(m *move.Mover) string {
	path, seq, err := m.Where()
	s := fmt.Sprint(path, " ", seq, " ", plain.Told(err))
	for i := range paths {
		p, err := m.Path(i)
		s += fmt.Sprint(" ", p, plain.Told(err))
	}
	return s + "\n"
}

// rooms: how much each path lets, by what it may send still.
func rooms(m *move.Mover) string {
	var s strings.Builder
	for i := range paths {
		n := 0
		for n < 2*maxPacket && m.Send(i, 1) == nil {
			n++
		}
		fmt.Fprint(&s, " ", n)
	}
	return s.String() + "\n"
}

// opens: how many numbers are open, and which ones of the first 12, on which path, of which time of the first 40, and of the last one.
func opens(m *move.Mover) string {
	var s strings.Builder
	for number := 1000; m.Ask(0, number, 0) == nil; number++ {
		fmt.Fprint(&s, " ", number)
	}
	for i := range paths {
		for number := range 12 {
			for at := range 41 {
				if at == 40 {
					at = maxTime
				}
				if is, _ := m.Answer(i, number, at, 0); is {
					fmt.Fprint(&s, " ", i, number, at)
				}
			}
		}
	}
	return s.String() + "\n"
}

// names: which of the names up to 60 may be offered, and which Seqs it goes by, until there is none.
func names(m *move.Mover) string {
	var s strings.Builder
	// Two that are Known, so that it can always move.
	m.Answer(0, 1000, 0, 0)
	m.Came(3, 1)
	m.Ask(3, 2000, 0)
	m.Answer(3, 2000, 0, 0)
	for name := range 61 {
		fmt.Fprint(&s, plain.Told(m.Offer(name)))
		m.Move(0)
		m.Move(3)
		fmt.Fprint(&s, look(m))
	}
	return s.String()
}

// report tells all that later calls could tell of a Mover.
func report(m *move.Mover) string {
	return look(m) + opens(m) + look(m) + names(m) + rooms(m) + look(m)
}

// wantAsOne: two Movers are as one, whatever is called.
func wantAsOne(t *testing.T, what string, m, other *move.Mover) {
	t.Helper()
	got, want := strings.Split(report(m), "\n"), strings.Split(report(other), "\n")
	for i := range want {
		if got[i] != want[i] {
			t.Errorf("%s: %q; want %q", what, got[i], want[i])
			return
		}
	}
}

// wantNothingDone: behind what is done to it a Mover is as it was.
func wantNothingDone(t *testing.T, what string, build func() *move.Mover, do func(m *move.Mover)) {
	t.Helper()
	m, other := build(), build()
	before := look(m)
	do(m)
	if behind := look(m); behind != before {
		t.Errorf("%s: %q became %q", what, before, behind)
	}
	wantAsOne(t, what, m, other)
}

// busy makes one in the midst of things: it is on path 1, by Seq 1 of three that are live; 2 is asked twice and not Known; on 3 nothing came.
func busy(t *testing.T) *move.Mover {
	t.Helper()
	m := named(t, 4, 4)
	wantSend(t, m, 0, 30, api.OK)
	prove(t, m, 1)
	wantMove(t, m, 1, api.OK)
	wantCame(t, m, 2, 10, api.OK)
	wantSend(t, m, 2, 25, api.OK)
	wantAsk(t, m, 2, 4, 10, api.OK)
	wantAsk(t, m, 2, 5, 12, api.OK)
	wantAsk(t, m, 0, 6, 14, api.OK)
	return m
}

func TestM1New(t *testing.T) {
	for limit := 1; limit <= maxIDs; limit++ {
		m := fresh(t, limit)
		wantNowhere(t, m)
		wantPath(t, m, 0, 0, 0, true)
		for i := 1; i < paths; i++ {
			wantPath(t, m, i, 0, 0, false)
		}
		// Just limit are let, and none is there at first.
		for n := range limit {
			wantOffer(t, m, n, api.OK)
		}
		wantOffer(t, m, limit, api.ErrFull)
		// Nor is any number open.
		for n := range maxOpen {
			wantAsk(t, m, 0, n, 0, api.OK)
		}
	}
}

func TestM1NewWrong(t *testing.T) {
	for _, limit := range noLimits {
		if m, err := move.New(limit); m != nil || plain.Told(err) != api.ErrRange {
			t.Errorf("New(%d) = %v, %v; want nil, ErrRange", limit, m, err)
		}
	}
}

func TestM1Offer(t *testing.T) {
	m := fresh(t, maxIDs)
	for _, name := range []int{0, top, 1, top - 1, 40, 30, 7, 8} {
		wantOffer(t, m, name, api.OK)
		// By whatever name, the first one is gone by.
		wantWhere(t, m, 0, 0)
	}
	wantOffer(t, m, 9, api.ErrFull)
	wantOffer(t, m, 40, api.ErrClash)
}

func TestM1OfferWrong(t *testing.T) {
	wantNothingDone(t, "an Offer of no name", func() *move.Mover { return busy(t) }, func(m *move.Mover) {
		for _, name := range noNumbers {
			wantOffer(t, m, name, api.ErrRange)
			wantOffer(t, m, name, api.ErrRange)
		}
	})
	// 50 was retired by the move; the others are live.
	wantNothingDone(t, "an Offer of what was", func() *move.Mover { return busy(t) }, func(m *move.Mover) {
		for name := 50; name < 54; name++ {
			wantOffer(t, m, name, api.ErrClash)
		}
	})
	for limit := 1; limit <= maxIDs; limit++ {
		wantNothingDone(t, "an Offer when it is full", func() *move.Mover { return named(t, limit, limit) }, func(m *move.Mover) {
			wantOffer(t, m, 5, api.ErrFull)
			wantOffer(t, m, top, api.ErrFull)
			// ErrRange and ErrClash ahead of it.
			wantOffer(t, m, -1, api.ErrRange)
			wantOffer(t, m, 50, api.ErrClash)
		})
	}
}

func TestM1OfferEver(t *testing.T) {
	for _, limit := range []int{2, 3, maxIDs} {
		m := roaming(t, limit, limit)
		offered := limit
		for seq := 1; offered < ever; seq++ {
			wantMove(t, m, seq%paths, api.OK)
			wantWhere(t, m, seq%paths, seq)
			wantOffer(t, m, 50+offered, api.OK)
			offered++
			wantOffer(t, m, 7, api.ErrFull)
		}
		// There is room, but not for one more than there were.
		at, seq, _ := m.Where()
		for ; seq < ever-1; seq++ {
			wantOffer(t, m, 7, api.ErrFull)
			at = (at + 1) % paths
			wantMove(t, m, at, api.OK)
			wantWhere(t, m, at, seq+1)
		}
		wantMove(t, m, (at+1)%paths, api.ErrNone)
		wantOffer(t, m, 7, api.ErrFull)
		for name := 50; name < 50+ever; name++ {
			wantOffer(t, m, name, api.ErrClash)
		}
		wantWhere(t, m, at, ever-1)
	}
}

func TestM1Came(t *testing.T) {
	for i := range paths {
		m := fresh(t, 2)
		sum := 0
		for _, n := range []int{0, 1, 40, maxPacket, maxPacket - 1, 0, 7} {
			sum += n
			wantCame(t, m, i, n, api.OK)
			// It is not Known by what came, nor does any other path change.
			for j := range paths {
				if j != i {
					wantPath(t, m, j, 0, 0, j == 0)
				}
			}
			wantPath(t, m, i, sum, 0, i == 0)
		}
		wantNowhere(t, m)
	}
}

func TestM1CameWrong(t *testing.T) {
	wantNothingDone(t, "a Came of wrong numbers", func() *move.Mover { return busy(t) }, func(m *move.Mover) {
		for _, i := range noPaths {
			for _, n := range []int{0, 1, maxPacket, -1, maxPacket + 1, math.MinInt, math.MaxInt} {
				wantCame(t, m, i, n, api.ErrRange)
			}
		}
		for i := range paths {
			for _, n := range noCounts {
				wantCame(t, m, i, n, api.ErrRange)
			}
		}
	})
}

// fill a path by packets, until no whole one may be any more, and tell how much it is.
func fill(t *testing.T, call func(i, n int) error, i int) int {
	t.Helper()
	for range top / maxPacket {
		if err := call(i, maxPacket); err != nil {
			t.Fatalf("path %d: %v", i, err)
		}
	}
	return top - top%maxPacket
}

func TestM1AllThatCanBe(t *testing.T) {
	const rest = top % maxPacket
	for _, i := range []int{0, 3} {
		m := named(t, 2, 2)
		in := fill(t, m.Came, i)
		wantCame(t, m, i, rest+1, api.ErrRange)
		wantPath(t, m, i, in, 0, i == 0)
		wantCame(t, m, i, rest, api.OK)
		wantCame(t, m, i, 1, api.ErrRange)
		wantCame(t, m, i, 0, api.OK)
		// Three times as much is more than can be sent in all; so that is told, though it is not Known.
		out := fill(t, m.Send, i)
		wantSend(t, m, i, rest+1, api.ErrRange)
		wantPath(t, m, i, top, out, i == 0)
		wantSend(t, m, i, rest, api.OK)
		wantSend(t, m, i, 1, api.ErrRange)
		wantSend(t, m, i, 0, api.OK)
		wantPath(t, m, i, top, top, i == 0)
		// The other paths have room, and this one can be asked and moved to.
		wantCame(t, m, 1, 1, api.OK)
		wantAsk(t, m, i, 1, 1, api.OK)
		wantAnswer(t, m, i, 1, 1, 0, true)
		wantPath(t, m, i, top, top, true)
		if i != 0 {
			wantMove(t, m, i, api.OK)
		}
	}
}

func TestM1SendKnown(t *testing.T) {
	m := fresh(t, 2)
	prove(t, m, 2)
	for _, i := range []int{0, 2} {
		p, _ := m.Path(i)
		sum := 0
		for _, n := range []int{maxPacket, 0, 1, maxPacket, 33} {
			sum += n
			wantSend(t, m, i, n, api.OK)
			wantPath(t, m, i, p.In, sum, true)
		}
	}
	wantPath(t, m, 1, 0, 0, false)
	wantPath(t, m, 3, 0, 0, false)
}

func TestM1SendThreeTimes(t *testing.T) {
	for i := 1; i < paths; i++ {
		m := fresh(t, 2)
		// Nothing came: nothing may be sent, but a packet of none.
		wantSend(t, m, i, 1, api.ErrFlow)
		wantSend(t, m, i, maxPacket, api.ErrFlow)
		wantSend(t, m, i, 0, api.OK)
		wantPath(t, m, i, 0, 0, false)
		wantCame(t, m, i, 50, api.OK)
		wantSend(t, m, i, 151, api.ErrFlow)
		wantSend(t, m, i, 100, api.OK)
		wantSend(t, m, i, 51, api.ErrFlow)
		wantPath(t, m, i, 50, 100, false)
		wantSend(t, m, i, 50, api.OK)
		wantSend(t, m, i, 1, api.ErrFlow)
		wantSend(t, m, i, 0, api.OK)
		// What came on another path lets nothing here.
		wantCame(t, m, 0, 100, api.OK)
		wantCame(t, m, 1+i%3, 100, api.OK)
		wantSend(t, m, i, 1, api.ErrFlow)
		wantPath(t, m, i, 50, 150, false)
		wantCame(t, m, i, 1, api.OK)
		wantSend(t, m, i, 4, api.ErrFlow)
		wantSend(t, m, i, 3, api.OK)
		// To be asked is not enough; to answer is.
		wantAsk(t, m, i, 9, 9, api.OK)
		wantSend(t, m, i, 1, api.ErrFlow)
		wantAnswer(t, m, i, 9, 9, 0, true)
		wantSend(t, m, i, maxPacket, api.OK)
		wantPath(t, m, i, 51, 353, true)
	}
}

func TestM1SendWrong(t *testing.T) {
	wantNothingDone(t, "a Send of wrong numbers", func() *move.Mover { return busy(t) }, func(m *move.Mover) {
		for _, i := range noPaths {
			for _, n := range []int{0, 1, maxPacket, -1, maxPacket + 1, math.MinInt, math.MaxInt} {
				wantSend(t, m, i, n, api.ErrRange)
			}
		}
		// On 2 and 3, where so much is not let, too: ErrRange ahead of ErrFlow.
		for i := range paths {
			for _, n := range noCounts {
				wantSend(t, m, i, n, api.ErrRange)
			}
		}
		wantSend(t, m, 2, 6, api.ErrFlow)
		wantSend(t, m, 2, maxPacket, api.ErrFlow)
		wantSend(t, m, 3, 1, api.ErrFlow)
	})
}

func TestM1Ask(t *testing.T) {
	for i := range paths {
		m := fresh(t, 2)
		if i != 0 {
			// One byte is enough, a packet of none is not.
			wantAsk(t, m, i, 3, 5, api.ErrNone)
			wantCame(t, m, i, 0, api.OK)
			wantAsk(t, m, i, 3, 5, api.ErrNone)
			wantCame(t, m, i, 1, api.OK)
		}
		before := look(m)
		for _, c := range [][2]int{{3, 5}, {0, 0}, {top, maxTime}, {1, maxTime - 1}} {
			wantAsk(t, m, i, c[0], c[1], api.OK)
		}
		if behind := look(m); behind != before {
			t.Errorf("by Ask %q became %q", before, behind)
		}
		wantAnswer(t, m, i, top, maxTime, 0, true)
		wantAnswer(t, m, i, 0, 0, 0, true)
		wantAnswer(t, m, i, 1, maxTime, 1, true)
		wantAnswer(t, m, i, 3, 5, 0, true)
	}
}

func TestM1AskWhereNothingCame(t *testing.T) {
	wantNothingDone(t, "an Ask where nothing came", func() *move.Mover { return busy(t) }, func(m *move.Mover) {
		for _, number := range []int{0, 7, top} {
			wantAsk(t, m, 3, number, 9, api.ErrNone)
		}
		// A number that is open is told only behind it, and so is what chapter 8 refuses else.
		wantAsk(t, m, 3, 4, 9, api.ErrNone)
		wantAsk(t, m, 3, -1, 9, api.ErrNone)
		wantAsk(t, m, 3, 7, maxTime+1, api.ErrNone)
	})
	// Also if as many are open as can be.
	m := fresh(t, 1)
	for number := range maxOpen {
		wantAsk(t, m, 0, number, 0, api.OK)
	}
	wantAsk(t, m, 1, 100, 0, api.ErrNone)
	wantAsk(t, m, 1, 0, 0, api.ErrNone)
	// What came on one path does not let another one be asked.
	wantCame(t, m, 2, 9, api.OK)
	wantAsk(t, m, 1, 100, 0, api.ErrNone)
	wantAsk(t, m, 2, 100, 0, api.ErrFull)
	wantAsk(t, m, 2, 0, 0, api.ErrClash)
}

func TestM1AskWrong(t *testing.T) {
	wantNothingDone(t, "an Ask of wrong numbers", func() *move.Mover { return busy(t) }, func(m *move.Mover) {
		for _, i := range noPaths {
			for _, number := range []int{4, 7, -1, top + 1, math.MaxInt} {
				wantAsk(t, m, i, number, 5, api.ErrRange)
				wantAsk(t, m, i, number, -1, api.ErrRange)
			}
		}
		for i := range 3 {
			for _, number := range noNumbers {
				wantAsk(t, m, i, number, 5, api.ErrRange)
			}
			for _, at := range noTimes {
				wantAsk(t, m, i, 7, at, api.ErrRange)
				// Ahead of ErrClash.
				wantAsk(t, m, i, 4, at, api.ErrRange)
			}
			// Open on whatever path.
			for _, number := range []int{4, 5, 6} {
				wantAsk(t, m, i, number, 20, api.ErrClash)
			}
		}
	})
}

func TestM1AskFull(t *testing.T) {
	// 4, 5 and 6 are open.
	build := func() *move.Mover {
		m := busy(t)
		for number := 7; number < 4+maxOpen; number++ {
			wantAsk(t, m, number%3, number, 20, api.OK)
		}
		return m
	}
	wantNothingDone(t, "an Ask when it is full", build, func(m *move.Mover) {
		for i := range 3 {
			wantAsk(t, m, i, 100, 20, api.ErrFull)
			wantAsk(t, m, i, -1, 20, api.ErrRange)
			wantAsk(t, m, i, 4, -1, api.ErrRange)
			wantAsk(t, m, i, 4, 20, api.ErrClash)
		}
	})
	// By an answer there is room for one more.
	m := build()
	wantAnswer(t, m, 2, 4, 10, 0, true)
	wantAsk(t, m, 0, 100, 20, api.OK)
	wantAsk(t, m, 0, 4, 20, api.ErrFull)
}

func TestM1Answer(t *testing.T) {
	for i := 1; i < paths; i++ {
		for _, c := range []struct{ number, asked, told, limit int }{
			{0, 0, 0, 0}, {7, 5, 5, 0}, {7, 5, 15, 10}, {7, 5, 14, 10}, {7, 5, 6, maxTime}, {top, 0, maxTime, maxTime}, {1, maxTime, maxTime, 0},
		} {
			m := named(t, 2, 2)
			wantCame(t, m, i, 40, api.OK)
			wantSend(t, m, i, 120, api.OK)
			wantAsk(t, m, i, c.number, c.asked, api.OK)
			wantPath(t, m, i, 40, 120, false)
			wantAnswer(t, m, i, c.number, c.told, c.limit, true)
			// It is Known; what came and was sent stays, and so do the other paths.
			wantPath(t, m, i, 40, 120, true)
			for j := range paths {
				if j != i {
					wantPath(t, m, j, 0, 0, j == 0)
				}
			}
			// It does not move by itself.
			wantWhere(t, m, 0, 0)
			// It is open no more.
			wantAnswer(t, m, i, c.number, c.told, c.limit, false)
			wantAsk(t, m, 0, c.number, 0, api.OK)
			wantPath(t, m, i, 40, 120, true)
		}
	}
}

func TestM1AnswerOnTheFirst(t *testing.T) {
	// Nothing came on it, and it is Known all the same.
	m := named(t, 2, 2)
	wantAsk(t, m, 0, 7, 5, api.OK)
	wantAnswer(t, m, 0, 7, 4, 9, false)
	wantAnswer(t, m, 0, 7, 6, 9, true)
	wantPath(t, m, 0, 0, 0, true)
	wantAnswer(t, m, 0, 7, 6, 9, false)
	wantPath(t, m, 0, 0, 0, true)
	wantCame(t, m, 0, 3, api.OK)
	wantAsk(t, m, 0, 7, 5, api.OK)
	wantAnswer(t, m, 0, 7, 5, 0, true)
	wantPath(t, m, 0, 3, 0, true)
}

func TestM1AnswerOfAnotherNumber(t *testing.T) {
	// Each that is asked stands alone: by the first one that is told back it is Known, and the other one may be told back still.
	m := busy(t)
	wantAnswer(t, m, 2, 5, 12, 0, true)
	wantPath(t, m, 2, 10, 25, true)
	wantAnswer(t, m, 2, 4, 11, 1, true)
	wantPath(t, m, 2, 10, 25, true)
	// What is told back on another path makes just that one Known.
	m = busy(t)
	wantAnswer(t, m, 0, 6, 14, 0, true)
	wantPath(t, m, 2, 10, 25, false)
}

func TestM1AnswerNotSo(t *testing.T) {
	wantNothingDone(t, "an Answer that is not so", func() *move.Mover { return busy(t) }, func(m *move.Mover) {
		for _, i := range []int{0, 1, 3} {
			wantAnswer(t, m, i, 4, 10, maxTime, false)
			wantAnswer(t, m, i, 5, 12, maxTime, false)
		}
		for i := 1; i < paths; i++ {
			wantAnswer(t, m, i, 6, 14, maxTime, false)
			// What was never asked.
			wantAnswer(t, m, i, 7, 14, maxTime, false)
			// What was told back already.
			wantAnswer(t, m, i, 0, 0, maxTime, false)
		}
		// Earlier than it was asked, or too late.
		wantAnswer(t, m, 2, 4, 9, maxTime, false)
		wantAnswer(t, m, 2, 4, 0, maxTime, false)
		wantAnswer(t, m, 2, 4, 11, 0, false)
		wantAnswer(t, m, 2, 4, 16, 5, false)
		wantAnswer(t, m, 2, 4, maxTime, maxTime-11, false)
	})
	// And in time it is so, behind all that.
	m := busy(t)
	wantAnswer(t, m, 2, 4, 16, 5, false)
	wantAnswer(t, m, 1, 4, 15, 5, false)
	wantPath(t, m, 2, 10, 25, false)
	wantMove(t, m, 2, api.ErrState)
	wantAnswer(t, m, 2, 4, 15, 5, true)
	wantPath(t, m, 2, 10, 25, true)
}

func TestM1AnswerTwice(t *testing.T) {
	// A second answer is not so, on whatever path, and makes none Known.
	m := named(t, 2, 2)
	for i := 1; i < paths; i++ {
		wantCame(t, m, i, 5, api.OK)
	}
	wantAsk(t, m, 1, 7, 5, api.OK)
	wantAnswer(t, m, 1, 7, 5, 0, true)
	for i := range paths {
		wantAnswer(t, m, i, 7, 5, 0, false)
	}
	wantPath(t, m, 2, 5, 0, false)
	wantPath(t, m, 3, 5, 0, false)
	// Asked again it may be told back again.
	wantAsk(t, m, 2, 7, 5, api.OK)
	wantAnswer(t, m, 2, 7, 5, 0, true)
	wantPath(t, m, 2, 5, 0, true)
}

func TestM1AnswerWrong(t *testing.T) {
	wantNothingDone(t, "an Answer of wrong numbers", func() *move.Mover { return busy(t) }, func(m *move.Mover) {
		for _, i := range noPaths {
			wantNoAnswer(t, m, i, 4, 10, 0)
			wantNoAnswer(t, m, i, -1, -1, -1)
		}
		for i := range paths {
			for _, number := range noNumbers {
				wantNoAnswer(t, m, i, number, 10, 0)
			}
			for _, n := range noTimes {
				wantNoAnswer(t, m, i, 4, n, 0)
				wantNoAnswer(t, m, i, 4, n, maxTime)
				wantNoAnswer(t, m, i, 4, 10, n)
				wantNoAnswer(t, m, i, 4, maxTime, n)
			}
		}
	})
}

func TestM1Move(t *testing.T) {
	for i := 1; i < paths; i++ {
		m := named(t, 3, 3)
		wantWhere(t, m, 0, 0)
		wantMove(t, m, i, api.ErrState)
		wantCame(t, m, i, 20, api.OK)
		wantMove(t, m, i, api.ErrState)
		wantAsk(t, m, i, 7, 5, api.OK)
		wantMove(t, m, i, api.ErrState)
		wantAnswer(t, m, i, 7, 8, 5, true)
		wantWhere(t, m, 0, 0)
		wantMove(t, m, i, api.OK)
		wantWhere(t, m, i, 1)
		// The paths stay as they were.
		for j := range paths {
			switch j {
			case 0:
				wantPath(t, m, j, 0, 0, true)
			case i:
				wantPath(t, m, j, 20, 0, true)
			default:
				wantPath(t, m, j, 0, 0, false)
			}
		}
		wantMove(t, m, i, api.ErrClash)
		wantWhere(t, m, i, 1)
	}
}

func TestM1MoveRetires(t *testing.T) {
	for limit := 2; limit <= maxIDs; limit++ {
		m := roaming(t, limit, limit)
		wantOffer(t, m, 7, api.ErrFull)
		wantMove(t, m, 2, api.OK)
		// Just one is gone, so that there is room for just one; and it may not be offered again.
		wantOffer(t, m, 50, api.ErrClash)
		wantOffer(t, m, 7, api.OK)
		wantOffer(t, m, 8, api.ErrFull)
		wantWhere(t, m, 2, 1)
		// It takes them one behind the other.
		for seq := 2; seq <= limit; seq++ {
			wantMove(t, m, 2-2*(seq%2), api.ErrClash)
			wantMove(t, m, 2*(seq%2), api.OK)
			wantWhere(t, m, 2*(seq%2), seq)
		}
		wantMove(t, m, 1, api.ErrNone)
		wantMove(t, m, 3, api.ErrNone)
		// Just limit - 1 more are let beside the one it goes by.
		for n := 1; n < limit; n++ {
			wantOffer(t, m, 10+n, api.OK)
		}
		wantOffer(t, m, 20, api.ErrFull)
	}
}

func TestM1MoveBack(t *testing.T) {
	m := named(t, maxIDs, maxIDs)
	prove(t, m, 3)
	for seq := 1; seq < maxIDs; seq++ {
		wantMove(t, m, 3*(seq%2), api.OK)
		wantWhere(t, m, 3*(seq%2), seq)
	}
	// The paths stay Known, however often it moves; but no ID is left to move by.
	wantPath(t, m, 0, 0, 0, true)
	wantPath(t, m, 3, 1, 0, true)
	wantMove(t, m, 0, api.ErrNone)
	wantOffer(t, m, 7, api.OK)
	wantMove(t, m, 0, api.OK)
	wantWhere(t, m, 0, maxIDs)
}

// A new path by a new name: in whatever order it goes from path to path, and whenever IDs are offered, no Seq comes back.
func TestM1MoveByANewName(t *testing.T) {
	for limit := 2; limit <= maxIDs; limit++ {
		m := roaming(t, limit, 1)
		draw := drawer(limit)
		at, seq, offered := 0, 0, 1
		for seq < ever-1 {
			for range 1 + draw(limit-1) {
				if offered-seq < limit && offered < ever {
					wantOffer(t, m, 50+offered, api.OK)
					offered++
				}
			}
			for range 1 + draw(limit) {
				next := (at + 1 + draw(paths-1)) % paths
				if offered-seq < 2 {
					wantMove(t, m, next, api.ErrNone)
					break
				}
				wantMove(t, m, next, api.OK)
				at, seq = next, seq+1
				wantWhere(t, m, at, seq)
			}
		}
	}
}

func TestM1MoveNone(t *testing.T) {
	// No ID, and just one, of a limit of 1 and of others.
	for _, limit := range []int{1, 2, maxIDs} {
		for n := range 2 {
			wantNothingDone(t, "a Move without an ID", func() *move.Mover { return roaming(t, limit, n) }, func(m *move.Mover) {
				for i := 1; i < paths; i++ {
					wantMove(t, m, i, api.ErrNone)
				}
			})
		}
	}
	m := roaming(t, 2, 0)
	wantNowhere(t, m)
	wantOffer(t, m, 5, api.OK)
	wantMove(t, m, 1, api.ErrNone)
	wantWhere(t, m, 0, 0)
	wantOffer(t, m, 6, api.OK)
	wantMove(t, m, 1, api.OK)
	wantWhere(t, m, 1, 1)
	wantMove(t, m, 0, api.ErrNone)
	wantMove(t, m, 2, api.ErrNone)
	wantWhere(t, m, 1, 1)
}

func TestM1MoveFirstUnasked(t *testing.T) {
	// Where need not have been asked: it goes by the first one all the same, so that is the one that is retired.
	m := roaming(t, 2, 2)
	wantMove(t, m, 1, api.OK)
	wantOffer(t, m, 7, api.OK)
	wantOffer(t, m, 8, api.ErrFull)
	wantWhere(t, m, 1, 1)
	m = roaming(t, 1, 1)
	wantMove(t, m, 1, api.ErrNone)
	wantWhere(t, m, 0, 0)
	wantOffer(t, m, 7, api.ErrFull)
}

func TestM1MoveWrong(t *testing.T) {
	wantNothingDone(t, "a Move that is refused", func() *move.Mover { return busy(t) }, func(m *move.Mover) {
		for _, i := range noPaths {
			wantMove(t, m, i, api.ErrRange)
		}
		wantMove(t, m, 2, api.ErrState)
		wantMove(t, m, 3, api.ErrState)
		wantMove(t, m, 1, api.ErrClash)
	})
	// ErrRange, ErrState and ErrClash ahead of ErrNone.
	for n := range 2 {
		wantNothingDone(t, "a Move that is refused, without an ID", func() *move.Mover { return named(t, 2, n) }, func(m *move.Mover) {
			for _, i := range noPaths {
				wantMove(t, m, i, api.ErrRange)
			}
			for i := 1; i < paths; i++ {
				wantMove(t, m, i, api.ErrState)
			}
			wantMove(t, m, 0, api.ErrClash)
		})
	}
	// Also on a later path, by the last ID.
	m := roaming(t, 2, 2)
	wantMove(t, m, 3, api.OK)
	wantMove(t, m, 3, api.ErrClash)
	wantMove(t, m, 0, api.ErrNone)
	wantMove(t, m, paths, api.ErrRange)
	wantWhere(t, m, 3, 1)
}

func TestM1Where(t *testing.T) {
	// Asked ahead of all, and only after several were offered.
	for n := 1; n <= maxIDs; n++ {
		m := fresh(t, maxIDs)
		wantNowhere(t, m)
		for i := range n {
			wantOffer(t, m, 30-i, api.OK)
			wantWhere(t, m, 0, 0)
		}
		wantWhere(t, named(t, maxIDs, n), 0, 0)
	}
	// An Offer that is refused is none.
	m := fresh(t, 1)
	wantOffer(t, m, -1, api.ErrRange)
	wantNowhere(t, m)
	wantOffer(t, m, 9, api.OK)
	wantWhere(t, m, 0, 0)
	wantOffer(t, m, 9, api.ErrClash)
	wantOffer(t, m, 8, api.ErrFull)
	wantWhere(t, m, 0, 0)
}

func TestM1WhereStays(t *testing.T) {
	// Neither what comes and is sent on other paths, nor what is asked and offered, moves it.
	m := busy(t)
	wantWhere(t, m, 1, 1)
	wantCame(t, m, 0, 9, api.OK)
	wantCame(t, m, 3, 9, api.OK)
	wantSend(t, m, 0, 9, api.OK)
	wantSend(t, m, 3, 9, api.OK)
	wantAsk(t, m, 3, 9, 9, api.OK)
	wantAnswer(t, m, 3, 9, 9, 0, true)
	wantAnswer(t, m, 0, 6, 14, 0, true)
	wantOffer(t, m, 1, api.OK)
	wantWhere(t, m, 1, 1)
	wantMove(t, m, 3, api.OK)
	wantWhere(t, m, 3, 2)
}

func TestM1Path(t *testing.T) {
	m := busy(t)
	wantPath(t, m, 0, 0, 30, true)
	wantPath(t, m, 1, 1, 0, true)
	wantPath(t, m, 2, 10, 25, false)
	wantPath(t, m, 3, 0, 0, false)
	wantNothingDone(t, "a Path of none", func() *move.Mover { return busy(t) }, func(m *move.Mover) {
		for _, i := range noPaths {
			if p, err := m.Path(i); p != (api.Path{}) || plain.Told(err) != api.ErrRange {
				t.Errorf("Path(%d) = %v, %v; want ErrRange", i, p, err)
			}
		}
	})
}

func TestM1TwoKnowNothingOfOneAnother(t *testing.T) {
	a, b := named(t, 2, 2), named(t, 3, 1)
	prove(t, a, 1)
	wantPath(t, b, 1, 0, 0, false)
	wantAsk(t, b, 1, 3, 3, api.ErrNone)
	wantMove(t, a, 1, api.OK)
	wantWhere(t, b, 0, 0)
	wantMove(t, b, 1, api.ErrState)
	wantOffer(t, b, 51, api.OK)
	wantOffer(t, b, 52, api.OK)
	wantOffer(t, b, 53, api.ErrFull)
	wantOffer(t, a, 53, api.OK)
	// The same number is open in both, and is told back in each.
	wantAsk(t, a, 0, 7, 5, api.OK)
	wantAsk(t, b, 0, 7, 6, api.OK)
	wantAnswer(t, a, 0, 7, 5, 0, true)
	wantAnswer(t, b, 0, 7, 5, 9, false)
	wantAnswer(t, b, 0, 7, 6, 0, true)
	wantSend(t, a, 0, 90, api.OK)
	wantPath(t, b, 0, 0, 0, true)
	// However much is done with one, the other one is as it was.
	c := busy(t)
	report(busy(t))
	wantAsOne(t, "beside another one", c, busy(t))
}
