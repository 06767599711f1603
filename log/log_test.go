package log_test

import (
	"fmt"
	"math"
	"slices"
	"strings"
	"testing"

	"wanderwire/api"
	"wanderwire/log"
	"wanderwire/plain"
)

// The numbers as the document has them, so that a change of one of them shows.
const (
	maxRanges = 12
	top       = 1<<30 - 1
	// least: so many bytes each record has at least.
	least = 2
)

// noNumbers: what none is; some would be right if only their last bits were looked at.
var noNumbers = []int{-1, -2, -64, -top, math.MinInt, math.MinInt + 1, top + 1, top + 2, 1 << 31, 1 << 32, 1<<32 + 5, 1<<62 + 5, math.MaxInt - 1, math.MaxInt}

// below 0, where a count of steps or of bytes is asked.
var below = []int{-1, -2, -3, -4, -5, -256, -1 << 32, 5 - 1<<32, math.MinInt, math.MinInt + 1}

// edges: numbers at which one more byte, or another bit, is needed.
var edges = []int{
	0, 1, 2, 63, 64, 127, 128, 255, 256, 257, 16383, 16384, 32767, 32768, 65535, 65536, 1<<22 - 1, 1 << 22,
	1<<24 - 1, 1 << 24, 1<<24 + 1, 0x01020304, 0x3f000000, 0x00ff00ff, 1 << 29, top - 1, top,
}

// one number as a range.
func one(n int) api.Range { return api.Range{Lo: n, Hi: n} }

func wantCame(t *testing.T, l *log.Log, n int, want bool) {
	t.Helper()
	if is, err := l.Came(n); is != want || err != nil {
		t.Errorf("Came(%d) = %v, %v; want %v", n, is, err, want)
	}
}

// wantNoCame: nothing is told but the error.
func wantNoCame(t *testing.T, l *log.Log, n int, want api.Errno) {
	t.Helper()
	if is, err := l.Came(n); is || plain.Told(err) != want {
		t.Errorf("Came(%d) = %v, %v; want false, %v", n, is, err, want)
	}
}

func wantSync(t *testing.T, l *log.Log, want api.Errno) {
	t.Helper()
	if err := l.Sync(); plain.Told(err) != want {
		t.Errorf("Sync() = %v; want %v", err, want)
	}
}

func wantAll(t *testing.T, l *log.Log, want ...api.Range) {
	t.Helper()
	// It may be asked as often as one likes.
	for range 2 {
		if got := l.All(); !slices.Equal(got, want) {
			t.Errorf("All() = %v; want %v", got, want)
		}
	}
}

func wantHas(t *testing.T, l *log.Log, n int, want bool) {
	t.Helper()
	for range 2 {
		if is, err := l.Has(n); is != want || err != nil {
			t.Errorf("Has(%d) = %v, %v; want %v", n, is, err, want)
		}
	}
}

func wantBytes(t *testing.T, l *log.Log, bytes, safe int) {
	t.Helper()
	for range 2 {
		if got := l.Bytes(); got != bytes {
			t.Errorf("Bytes() = %d; want %d", got, bytes)
		}
		if got := l.Safe(); got != safe {
			t.Errorf("Safe() = %d; want %d", got, safe)
		}
	}
}

// sizeOf the record of a number.
func sizeOf(t *testing.T, n int) int {
	t.Helper()
	l := log.New()
	wantCame(t, l, n, true)
	return l.Bytes()
}

// sum of the sizes of records.
func sum(t *testing.T, numbers ...int) int {
	t.Helper()
	all := 0
	for _, n := range numbers {
		all += sizeOf(t, n)
	}
	return all
}

// come: numbers, each of them new.
func come(t *testing.T, l *log.Log, numbers ...int) {
	t.Helper()
	for _, n := range numbers {
		wantCame(t, l, n, true)
	}
}

// logOf numbers of which the first ones are safe.
func logOf(t *testing.T, safe, more []int) *log.Log {
	t.Helper()
	l := log.New()
	come(t, l, safe...)
	wantSync(t, l, api.OK)
	come(t, l, more...)
	return l
}

// busy makes one in the midst of things: three records are safe, two are not.
func busy(t *testing.T) *log.Log {
	t.Helper()
	return logOf(t, []int{5, 70, 4}, []int{16400, 9})
}

// full makes one of twelve ranges, 0, 10, 20 .. 110, of which eight are safe.
func full(t *testing.T) *log.Log {
	t.Helper()
	return logOf(t, []int{60, 50, 40, 70, 30, 80, 0, 10}, []int{110, 100, 20, 90})
}

// stoppedAtCame makes a busy one that stopped in the midst of the record of 12.
func stoppedAtCame(t *testing.T) *log.Log {
	t.Helper()
	l := busy(t)
	l.Fail(0)
	wantNoCame(t, l, 12, api.ErrState)
	return l
}

// stoppedAtSync makes a busy one that stopped at a Sync.
func stoppedAtSync(t *testing.T) *log.Log {
	t.Helper()
	l := busy(t)
	l.Fail(0)
	wantSync(t, l, api.ErrState)
	return l
}

// states: Logs in which things stand in several ways, some just ahead of their stop.
func states(t *testing.T) map[string]func() *log.Log {
	failing := func(build func(*testing.T) *log.Log, n int) func() *log.Log {
		return func() *log.Log {
			l := build(t)
			l.Fail(n)
			return l
		}
	}
	return map[string]func() *log.Log{
		"new":                log.New,
		"busy":               func() *log.Log { return busy(t) },
		"busy, to stop":      failing(busy, 0),
		"busy, to stop at 2": failing(busy, 2),
		"full":               func() *log.Log { return full(t) },
		"full, to stop":      failing(full, 0),
		"full, to stop at 1": failing(full, 1),
		"stopped at a Came":  func() *log.Log { return stoppedAtCame(t) },
		"stopped at a Sync":  func() *log.Log { return stoppedAtSync(t) },
	}
}

// look at a Log, without changing it.
func look(l *log.Log) string {
	s := fmt.Sprint(l.All(), l.Bytes(), " ", l.Safe(), " ")
	for _, n := range []int{0, 4, 5, 6, 9, 10, 12, 70, 110, 16400, top} {
		is, err := l.Has(n)
		s += fmt.Sprint(is, plain.Told(err), " ")
	}
	return s + "\n"
}

// probes: rows of calls that tell, on a Log each, what is kept in it.
func probes(most int) []func(l *log.Log) string {
	syncs := func(l *log.Log) string {
		s := ""
		for range 6 {
			s += fmt.Sprint(plain.Told(l.Sync())) + look(l)
		}
		return s
	}
	numbers := func(l *log.Log) string {
		s := ""
		for _, n := range []int{5, 12, 71, 10, 11, 6, top, 0, 16400, 9, 300} {
			is, err := l.Came(n)
			s += fmt.Sprint(is, plain.Told(err)) + look(l)
		}
		return s
	}
	all := []func(l *log.Log) string{
		func(l *log.Log) string { return syncs(l) + numbers(l) },
		func(l *log.Log) string { return numbers(l) + syncs(l) },
	}
	for keep := -1; keep <= most+1; keep++ {
		all = append(all, func(l *log.Log) string {
			l.Crash(keep)
			return look(l) + numbers(l) + syncs(l)
		})
	}
	return all
}

// wantNothingDone: behind what is done to it a Log is as it was, whatever is called.
func wantNothingDone(t *testing.T, what string, build func() *log.Log, do func(l *log.Log)) {
	t.Helper()
	for _, probe := range probes(build().Bytes()) {
		l, other := build(), build()
		do(l)
		got, want := strings.Split(look(l)+probe(l), "\n"), strings.Split(look(other)+probe(other), "\n")
		for i := range want {
			if got[i] != want[i] {
				t.Errorf("%s: %q; want %q", what, got[i], want[i])
				return
			}
		}
	}
}

func TestL1New(t *testing.T) {
	l := log.New()
	wantAll(t, l)
	wantBytes(t, l, 0, 0)
	for _, n := range edges {
		wantHas(t, l, n, false)
	}
	// None is there, so twelve ranges are let.
	for i := range maxRanges {
		wantCame(t, l, 2*i, true)
	}
	wantNoCame(t, l, 2*maxRanges, api.ErrFull)
}

func TestL1Came(t *testing.T) {
	l := log.New()
	bytes := 0
	var there []int
	for _, c := range []struct {
		n     int
		isNew bool
		all   []api.Range
	}{
		{5, true, []api.Range{one(5)}},
		{5, false, []api.Range{one(5)}},
		{9, true, []api.Range{one(9), one(5)}},
		{7, true, []api.Range{one(9), one(7), one(5)}},
		{5, false, []api.Range{one(9), one(7), one(5)}},
		{6, true, []api.Range{one(9), {Lo: 5, Hi: 7}}},
		{8, true, []api.Range{{Lo: 5, Hi: 9}}},
		{7, false, []api.Range{{Lo: 5, Hi: 9}}},
		{9, false, []api.Range{{Lo: 5, Hi: 9}}},
		{0, true, []api.Range{{Lo: 5, Hi: 9}, one(0)}},
		{top, true, []api.Range{one(top), {Lo: 5, Hi: 9}, one(0)}},
		{top - 1, true, []api.Range{{Lo: top - 1, Hi: top}, {Lo: 5, Hi: 9}, one(0)}},
		{0, false, []api.Range{{Lo: top - 1, Hi: top}, {Lo: 5, Hi: 9}, one(0)}},
		{top, false, []api.Range{{Lo: top - 1, Hi: top}, {Lo: 5, Hi: 9}, one(0)}},
		{10, true, []api.Range{{Lo: top - 1, Hi: top}, {Lo: 5, Hi: 10}, one(0)}},
		{4, true, []api.Range{{Lo: top - 1, Hi: top}, {Lo: 4, Hi: 10}, one(0)}},
	} {
		wantCame(t, l, c.n, c.isNew)
		if c.isNew {
			there = append(there, c.n)
			if more := l.Bytes() - bytes; more < least {
				t.Errorf("the record of %d has %d bytes; want at least %d", c.n, more, least)
			}
			bytes = l.Bytes()
		}
		wantAll(t, l, c.all...)
		// What came again has no record, and no Came is safe by itself.
		wantBytes(t, l, bytes, 0)
		for _, n := range []int{0, 1, 3, 4, 5, 6, 7, 8, 9, 10, 11, top - 2, top - 1, top} {
			wantHas(t, l, n, slices.Contains(there, n))
		}
	}
}

func TestL1CameEdges(t *testing.T) {
	for _, n := range edges {
		l := log.New()
		wantCame(t, l, n, true)
		wantCame(t, l, n, false)
		wantAll(t, l, one(n))
		if l.Bytes() < least {
			t.Errorf("the record of %d has %d bytes; want at least %d", n, l.Bytes(), least)
		}
		// The bytes tell just this number again.
		l.Crash(l.Bytes())
		wantAll(t, l, one(n))
		wantCame(t, l, n, false)
	}
}

// TestL1CameWrong: what chapter 3 refuses leaves no byte, and is no step.
func TestL1CameWrong(t *testing.T) {
	for what, build := range states(t) {
		want := api.ErrRange
		if strings.HasPrefix(what, "stopped") {
			want = api.ErrState
		}
		wantNothingDone(t, "a Came of no number: "+what, build, func(l *log.Log) {
			for _, n := range noNumbers {
				wantNoCame(t, l, n, want)
				wantNoCame(t, l, n, want)
			}
		})
	}
}

func TestL1CameFull(t *testing.T) {
	for _, what := range []string{"full", "full, to stop", "full, to stop at 1"} {
		wantNothingDone(t, "a Came of one range more: "+what, states(t)[what], func(l *log.Log) {
			for _, n := range []int{5, 2, 112, 98, 55, 300, top} {
				wantNoCame(t, l, n, api.ErrFull)
			}
			// ErrRange ahead of it.
			wantNoCame(t, l, -1, api.ErrRange)
			wantNoCame(t, l, top+1, api.ErrRange)
		})
	}
	l := full(t)
	bytes, safe := l.Bytes(), l.Safe()
	// What came ahead, and what makes no range more, is taken.
	wantCame(t, l, 50, false)
	wantBytes(t, l, bytes, safe)
	come(t, l, 51, 111, 9)
	wantBytes(t, l, bytes+sum(t, 51, 111, 9), safe)
	wantNoCame(t, l, 5, api.ErrFull)
	// With 9 these make two ranges one, so that there is room.
	come(t, l, 1, 2, 3, 4, 5, 6, 7, 8)
	wantCame(t, l, 300, true)
	wantNoCame(t, l, 400, api.ErrFull)
}

// TestL1CameFullBehindACrash: what was lost makes room.
func TestL1CameFullBehindACrash(t *testing.T) {
	l := full(t)
	l.Crash(0)
	come(t, l, 5, 300, 15, 25)
	wantNoCame(t, l, 400, api.ErrFull)
	wantNoCame(t, l, 110, api.ErrFull)
	wantAll(t, l, one(300), one(80), one(70), one(60), one(50), one(40), one(30), one(25), one(15), one(10), one(5), one(0))
	// With all of them kept there is none.
	l = full(t)
	l.Crash(l.Bytes())
	wantNoCame(t, l, 5, api.ErrFull)
	wantCame(t, l, 111, true)
}

// TestL1CameAgain: of one that came ahead nothing is done.
func TestL1CameAgain(t *testing.T) {
	for what, build := range states(t) {
		wantNothingDone(t, "a Came of what came: "+what, build, func(l *log.Log) {
			for _, r := range l.All() {
				for range 3 {
					if strings.HasPrefix(what, "stopped") {
						wantNoCame(t, l, r.Lo, api.ErrState)
					} else {
						wantCame(t, l, r.Lo, false)
					}
				}
			}
		})
	}
}

func TestL1Sync(t *testing.T) {
	l := log.New()
	wantSync(t, l, api.OK)
	wantBytes(t, l, 0, 0)
	bytes := 0
	var all []api.Range
	for _, n := range []int{3, 100, 20000, top} {
		wantCame(t, l, n, true)
		wantBytes(t, l, bytes+sizeOf(t, n), bytes)
		bytes += sizeOf(t, n)
		for range 3 {
			wantSync(t, l, api.OK)
			wantBytes(t, l, bytes, bytes)
		}
		all = slices.Insert(all, 0, one(n))
		wantAll(t, l, all...)
	}
	l.Crash(0)
	wantAll(t, l, all...)
	wantBytes(t, l, bytes, bytes)
}

// TestL1SyncSeveral: one Sync makes all safe that is there, and nothing that comes behind it.
func TestL1SyncSeveral(t *testing.T) {
	l := logOf(t, []int{8, 300, 9}, []int{50, 7})
	wantBytes(t, l, sum(t, 8, 300, 9, 50, 7), sum(t, 8, 300, 9))
	l.Crash(0)
	wantAll(t, l, one(300), api.Range{Lo: 8, Hi: 9})
	wantBytes(t, l, sum(t, 8, 300, 9), sum(t, 8, 300, 9))
}

// steps does so many that are done, each a Came of the next number from first on, or a Sync, as the bits of kinds say.
func steps(t *testing.T, l *log.Log, many, kinds, first int) {
	t.Helper()
	n := first
	for i := range many {
		if kinds>>i&1 == 0 {
			wantCame(t, l, n, true)
			n++
		} else {
			wantSync(t, l, api.OK)
		}
	}
}

func TestL1Fail(t *testing.T) {
	for n := range 6 {
		// Every row of so many steps, and of the one that stops it.
		for kinds := range 1 << (n + 1) {
			l := busy(t)
			l.Fail(n)
			steps(t, l, n, kinds, 1000)
			all, bytes, safe := l.All(), l.Bytes(), l.Safe()
			if kinds>>n&1 == 0 {
				wantNoCame(t, l, 2000, api.ErrState)
				bytes += sizeOf(t, 2000) / 2
			} else {
				wantSync(t, l, api.ErrState)
			}
			wantAll(t, l, all...)
			wantHas(t, l, 2000, false)
			wantBytes(t, l, bytes, safe)
			wantNoCame(t, l, 3000, api.ErrState)
			wantSync(t, l, api.ErrState)
			wantBytes(t, l, bytes, safe)
		}
	}
}

func TestL1FailNever(t *testing.T) {
	for _, n := range append([]int{math.MaxInt, math.MaxInt - 1, 1 << 32, 1 << 31, 1 << 16}, below...) {
		l := log.New()
		l.Fail(n)
		for i := range 100 {
			steps(t, l, 2, 2, 2*i)
			wantCame(t, l, 2*i+1, true)
			wantCame(t, l, 2*i+1, false)
		}
	}
	// Nor when Fail was never called.
	l := log.New()
	for i := range 300 {
		steps(t, l, 3, 6, i)
	}
}

// TestL1FailFar: of a greater number just so many steps are done.
func TestL1FailFar(t *testing.T) {
	l := log.New()
	l.Fail(300)
	for i := range 150 {
		steps(t, l, 2, 2, i)
	}
	wantSync(t, l, api.ErrState)
}

// TestL1FailAgain: a new one takes the place of the one ahead.
func TestL1FailAgain(t *testing.T) {
	for _, first := range append([]int{0, 1, 2, 3, 7, math.MaxInt}, below...) {
		for second := range 5 {
			// It counts from when it was called, however many steps were done by then.
			for done := range 4 {
				if 0 <= first && first < done {
					continue
				}
				l := log.New()
				l.Fail(first)
				steps(t, l, done, 2, 10)
				l.Fail(second)
				steps(t, l, second, 5, 20)
				wantNoCame(t, l, 30, api.ErrState)
			}
		}
	}
	for _, n := range below {
		l := log.New()
		l.Fail(0)
		l.Fail(n)
		steps(t, l, 20, 0x55555, 10)
	}
}

// TestL1NoStep: what is none does not bring the stop nearer.
func TestL1NoStep(t *testing.T) {
	for n := range 3 {
		l := busy(t)
		l.Fail(n)
		for i := range n + 1 {
			for range 4 {
				wantCame(t, l, 5, false)
				wantCame(t, l, 9, false)
				wantNoCame(t, l, -1, api.ErrRange)
				wantNoCame(t, l, top+1, api.ErrRange)
				l.All()
				l.Bytes()
				l.Safe()
				wantHas(t, l, 5, true)
				wantHas(t, l, 6, false)
				l.Has(-1)
			}
			if i < n {
				wantCame(t, l, 100+i, true)
			}
		}
		wantNoCame(t, l, 200, api.ErrState)
	}
}

// TestL1StopAtCame: half the bytes of the record are there, rounded down, and the numbers are as they were.
func TestL1StopAtCame(t *testing.T) {
	for _, n := range edges {
		l := log.New()
		come(t, l, 40000)
		l.Fail(0)
		wantNoCame(t, l, n, api.ErrState)
		wantAll(t, l, one(40000))
		wantHas(t, l, n, false)
		wantHas(t, l, 40000, true)
		wantBytes(t, l, sizeOf(t, 40000)+sizeOf(t, n)/2, 0)
	}
}

// TestL1StopAtSync: nothing is safe that was not.
func TestL1StopAtSync(t *testing.T) {
	l := stoppedAtSync(t)
	wantBytes(t, l, sum(t, 5, 70, 4, 16400, 9), sum(t, 5, 70, 4))
	wantAll(t, l, one(16400), one(70), one(9), api.Range{Lo: 4, Hi: 5})
	l.Crash(0)
	wantBytes(t, l, sum(t, 5, 70, 4), sum(t, 5, 70, 4))
	wantAll(t, l, one(70), api.Range{Lo: 4, Hi: 5})
}

// TestL1Stopped: Came and Sync say ErrState till it crashes, whatever Fail says; the others go on telling.
func TestL1Stopped(t *testing.T) {
	for _, what := range []string{"stopped at a Came", "stopped at a Sync"} {
		wantNothingDone(t, what, states(t)[what], func(l *log.Log) {
			all, bytes, safe := l.All(), l.Bytes(), l.Safe()
			for _, fail := range append([]int{0, 1, 2, 100, math.MaxInt}, below...) {
				l.Fail(fail)
				for _, n := range append([]int{5, 12, 13, 0, top}, noNumbers...) {
					wantNoCame(t, l, n, api.ErrState)
				}
				wantSync(t, l, api.ErrState)
				wantAll(t, l, all...)
				wantBytes(t, l, bytes, safe)
				wantHas(t, l, 5, true)
				wantHas(t, l, 12, false)
				wantNoHas(t, l)
			}
		})
	}
	// ErrState ahead of ErrFull.
	l := full(t)
	l.Fail(0)
	wantSync(t, l, api.ErrState)
	wantNoCame(t, l, 300, api.ErrState)
}

// TestL2Crash: what was safe is there, and nothing else.
func TestL2Crash(t *testing.T) {
	l := logOf(t, []int{5, 3, 4}, []int{9, 1})
	l.Crash(0)
	wantAll(t, l, api.Range{Lo: 3, Hi: 5})
	wantBytes(t, l, sum(t, 5, 3, 4), sum(t, 5, 3, 4))
	for n, want := range []bool{false, false, false, true, true, true, false, false, false, false} {
		wantHas(t, l, n, want)
	}
	// It goes on; what was lost is new again, what was not is not.
	wantCame(t, l, 4, false)
	wantCame(t, l, 9, true)
	wantCame(t, l, 2, true)
	wantAll(t, l, one(9), api.Range{Lo: 2, Hi: 5})
	wantBytes(t, l, sum(t, 5, 3, 4, 9, 2), sum(t, 5, 3, 4))
	wantSync(t, l, api.OK)
	wantCame(t, l, 7, true)
	l.Crash(0)
	wantAll(t, l, one(9), api.Range{Lo: 2, Hi: 5})
	wantBytes(t, l, sum(t, 5, 3, 4, 9, 2), sum(t, 5, 3, 4, 9, 2))
}

func TestL2CrashNothingSafe(t *testing.T) {
	for _, keep := range append([]int{0}, below...) {
		l := log.New()
		l.Crash(keep)
		wantAll(t, l)
		wantBytes(t, l, 0, 0)
		come(t, l, 5, 3, top)
		l.Crash(keep)
		wantAll(t, l)
		wantBytes(t, l, 0, 0)
		wantHas(t, l, 5, false)
		come(t, l, 5, 3, top)
		wantAll(t, l, one(top), one(5), one(3))
	}
	for _, keep := range []int{1, 100, math.MaxInt} {
		l := log.New()
		l.Crash(keep)
		wantAll(t, l)
		wantBytes(t, l, 0, 0)
	}
}

// wantLeft: of the numbers, of which so many are safe, just those are left whose records are whole within keep bytes behind these; and it goes on.
func wantLeft(t *testing.T, l *log.Log, numbers []int, safe, keep int) {
	t.Helper()
	keep = max(keep, 0)
	left, bytes := numbers[:safe], sum(t, numbers[:safe]...)
	for _, n := range numbers[safe:] {
		size := sizeOf(t, n)
		if keep < size {
			break
		}
		keep -= size
		bytes += size
		left = numbers[:len(left)+1]
	}
	// The numbers are apart, so that each one is a range.
	var all []api.Range
	for _, n := range slices.Backward(slices.Sorted(slices.Values(left))) {
		all = append(all, one(n))
	}
	wantAll(t, l, all...)
	wantBytes(t, l, bytes, bytes)
	for i, n := range numbers {
		wantHas(t, l, n, i < len(left))
	}
	for i, n := range numbers {
		wantCame(t, l, n, i >= len(left))
	}
	wantBytes(t, l, sum(t, numbers...), bytes)
	wantSync(t, l, api.OK)
	l.Crash(0)
	wantBytes(t, l, sum(t, numbers...), sum(t, numbers...))
}

// keeps: of bytes that are not safe, how many may be kept: all counts, and what is none.
func keeps(bytes int) []int {
	all := append([]int{math.MaxInt, math.MaxInt - 1, math.MaxInt - bytes, 1 << 32, 1 << 31}, below...)
	for keep := range bytes + 6 {
		all = append(all, keep)
	}
	return all
}

// TestL2CrashKeep: each count of bytes, from below 0 to more than there are; among them one less than a record, just one, and one more.
func TestL2CrashKeep(t *testing.T) {
	numbers := []int{50, 20000, 7, 300, 3, top, 90}
	for safe := range len(numbers) + 1 {
		more := sum(t, numbers[safe:]...)
		for _, keep := range keeps(more) {
			l := logOf(t, numbers[:safe], numbers[safe:])
			l.Crash(keep)
			wantLeft(t, l, numbers, safe, keep)
		}
	}
}

// TestL2CrashHalf: the half of a record is gone, also where keep would let it stay.
func TestL2CrashHalf(t *testing.T) {
	numbers := []int{50, 20000, 7, 300}
	for _, half := range []int{0, 5, 1000, 0x01010101, top} {
		for safe := range len(numbers) + 1 {
			more := sum(t, numbers[safe:]...) + sizeOf(t, half)
			for _, keep := range keeps(more) {
				l := logOf(t, numbers[:safe], numbers[safe:])
				l.Fail(0)
				wantNoCame(t, l, half, api.ErrState)
				l.Crash(keep)
				wantHas(t, l, half, false)
				wantLeft(t, l, numbers, safe, keep)
			}
		}
	}
}

// TestL2CrashBehindAStoppedSync: what the Sync left is not safe, but may be kept.
func TestL2CrashBehindAStoppedSync(t *testing.T) {
	numbers := []int{50, 20000, 7, 300}
	for _, keep := range keeps(sum(t, 7, 300)) {
		l := logOf(t, numbers[:2], numbers[2:])
		l.Fail(0)
		wantSync(t, l, api.ErrState)
		l.Crash(keep)
		wantLeft(t, l, numbers, 2, keep)
	}
}

// TestL2CrashAgain: what is left is safe, so that the next Crash takes nothing.
func TestL2CrashAgain(t *testing.T) {
	for _, keep := range keeps(sum(t, 16400, 9)) {
		l := busy(t)
		l.Crash(keep)
		before := look(l)
		for _, again := range []int{0, -1, math.MinInt, 1, 3, math.MaxInt} {
			l.Crash(again)
			if behind := look(l); behind != before {
				t.Errorf("Crash(%d), then Crash(%d): %q became %q", keep, again, before, behind)
			}
		}
	}
}

// TestL2CrashOfAHalfThenMore: new records stand behind whole ones, also where a half stood.
func TestL2CrashOfAHalfThenMore(t *testing.T) {
	l := log.New()
	bytes := 0
	var all []api.Range
	for i := range 10 {
		n := 1000 - 3*i
		come(t, l, n)
		all = append(all, one(n))
		l.Fail(0)
		wantNoCame(t, l, 20000000+n, api.ErrState)
		l.Crash(1000)
		bytes += sizeOf(t, n)
		wantAll(t, l, all...)
		wantBytes(t, l, bytes, bytes)
	}
}

// TestL2CrashForgetsFail: behind it nothing stops, till Fail is called again.
func TestL2CrashForgetsFail(t *testing.T) {
	for n := range 4 {
		// However many of its steps were done by then.
		for done := range n + 1 {
			l := log.New()
			l.Fail(n)
			steps(t, l, done, 2, 10)
			l.Crash(0)
			steps(t, l, 20, 0x55555, 100)
			l.Fail(1)
			wantSync(t, l, api.OK)
			wantNoCame(t, l, 200, api.ErrState)
			l.Crash(0)
			steps(t, l, 20, 0x55555, 300)
		}
	}
	// Also what it said when it had stopped.
	for _, build := range []func(*testing.T) *log.Log{stoppedAtCame, stoppedAtSync} {
		for _, n := range []int{0, 1, 2, 5} {
			l := build(t)
			l.Fail(n)
			l.Crash(0)
			steps(t, l, 8, 0x55, 100)
		}
	}
}

// TestL2CrashGoesOn: behind a stop, Came and Sync are done again.
func TestL2CrashGoesOn(t *testing.T) {
	for _, build := range []func(*testing.T) *log.Log{stoppedAtCame, stoppedAtSync} {
		l := build(t)
		l.Crash(0)
		wantAll(t, l, one(70), api.Range{Lo: 4, Hi: 5})
		wantCame(t, l, 70, false)
		come(t, l, 12, 9)
		wantBytes(t, l, sum(t, 5, 70, 4, 12, 9), sum(t, 5, 70, 4))
		wantSync(t, l, api.OK)
		l.Crash(0)
		wantAll(t, l, one(70), one(12), one(9), api.Range{Lo: 4, Hi: 5})
	}
}

// TestL2AllIsTheCallers: what is done to it changes nothing, and nothing changes it.
func TestL2AllIsTheCallers(t *testing.T) {
	for what, build := range states(t) {
		wantNothingDone(t, "a list that is written into: "+what, build, func(l *log.Log) {
			a, b := l.All(), l.All()
			kept := slices.Clone(b)
			for i := range a {
				a[i] = api.Range{Lo: -1, Hi: 7}
			}
			// Nor is what lies behind its length another one's.
			a = append(a, one(1), one(2), one(3))
			clear(a[:cap(a)])
			if !slices.Equal(b, kept) {
				t.Errorf("%s: All() became %v by another one; want %v", what, b, kept)
			}
		})
		l := build()
		all := l.All()
		kept := slices.Clone(all)
		l.Came(6)
		l.Came(11)
		l.Crash(0)
		l.Came(7)
		if !slices.Equal(all, kept) {
			t.Errorf("%s: All() became %v by later calls; want %v", what, all, kept)
		}
	}
}

// wantNoHas: nothing is told but the error.
func wantNoHas(t *testing.T, l *log.Log) {
	t.Helper()
	for _, n := range noNumbers {
		if is, err := l.Has(n); is || plain.Told(err) != api.ErrRange {
			t.Errorf("Has(%d) = %v, %v; want false, ErrRange", n, is, err)
		}
	}
}

func TestL2HasWrong(t *testing.T) {
	for what, build := range states(t) {
		wantNothingDone(t, "a Has of no number: "+what, build, func(l *log.Log) { wantNoHas(t, l) })
	}
}

// TestL2Telling: to be asked changes nothing.
func TestL2Telling(t *testing.T) {
	for what, build := range states(t) {
		wantNothingDone(t, "to be asked: "+what, build, func(l *log.Log) {
			for range 3 {
				look(l)
			}
		})
	}
}

func TestL2TwoKnowNothingOfOneAnother(t *testing.T) {
	a, b := log.New(), log.New()
	come(t, a, 5, 6)
	wantAll(t, b)
	wantBytes(t, b, 0, 0)
	come(t, b, 6, 9)
	wantSync(t, a, api.OK)
	wantBytes(t, b, sum(t, 6, 9), 0)
	a.Fail(0)
	wantCame(t, b, 12, true)
	wantNoCame(t, a, 12, api.ErrState)
	wantSync(t, b, api.OK)
	wantCame(t, b, 13, true)
	wantSync(t, a, api.ErrState)
	b.Fail(0)
	b.Crash(0)
	wantAll(t, b, one(12), one(9), one(6))
	wantSync(t, a, api.ErrState)
	a.Crash(0)
	wantAll(t, a, api.Range{Lo: 5, Hi: 6})
	wantAll(t, b, one(12), one(9), one(6))
	wantBytes(t, a, sum(t, 5, 6), sum(t, 5, 6))
	wantBytes(t, b, sum(t, 6, 9, 12), sum(t, 6, 9, 12))
}
