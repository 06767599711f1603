package log_test

import (
	"maps"
	"slices"
	"testing"

	"wanderwire/api"
	"wanderwire/log"
	"wanderwire/plain"
)

// drawer gives numbers below the one that is asked, the same ones of each seed.
func drawer(seed int) func(n int) int {
	turn := seed*7919 + 1
	return func(n int) int {
		turn = (turn*1103515245 + 12345) & (1<<31 - 1)
		return turn >> 12 % n
	}
}

// plainLog: the chapter's words, of a list of the numbers of all records.
type plainLog struct {
	numbers []int
	// safe: how many of them; half: how many bytes stand behind them that are of no whole record.
	safe, half int
	// fails: whether it is to stop, and behind how many steps.
	fails   bool
	steps   int
	stopped bool
	// size of a record.
	size func(n int) int
}

// bytes of some records.
func (p *plainLog) bytes(numbers []int) int {
	all := 0
	for _, n := range numbers {
		all += p.size(n)
	}
	return all
}

// rangesOf numbers, each looked at by itself.
func rangesOf(numbers []int) []api.Range {
	there := map[int]int{}
	for _, n := range numbers {
		there[n] = 1
	}
	var all []api.Range
	for _, n := range slices.Sorted(maps.Keys(there)) {
		if there[n-1] == 1 {
			all[0].Hi = n
		} else {
			all = slices.Insert(all, 0, one(n))
		}
	}
	return all
}

// step tells whether it is done.
func (p *plainLog) step() bool {
	if p.fails && p.steps == 0 {
		p.stopped = true
		return false
	}
	p.steps--
	return true
}

func (p *plainLog) came(n int) (bool, api.Errno) {
	switch {
	case p.stopped:
		return false, api.ErrState
	case n < 0 || n > top:
		return false, api.ErrRange
	case slices.Contains(p.numbers, n):
		return false, api.OK
	case len(rangesOf(append(slices.Clone(p.numbers), n))) > maxRanges:
		return false, api.ErrFull
	case !p.step():
		p.half = p.size(n) / 2
		return false, api.ErrState
	}
	p.numbers = append(p.numbers, n)
	return true, api.OK
}

func (p *plainLog) sync() api.Errno {
	if p.stopped || !p.step() {
		return api.ErrState
	}
	p.safe = len(p.numbers)
	return api.OK
}

func (p *plainLog) crash(keep int) {
	end := p.safe
	for end < len(p.numbers) && keep >= p.size(p.numbers[end]) {
		keep -= p.size(p.numbers[end])
		end++
	}
	p.numbers = p.numbers[:end]
	p.safe, p.half, p.fails, p.stopped = end, 0, false, false
}

// wantSame: a Log tells what the words have.
func wantSame(t *testing.T, l *log.Log, p *plainLog) {
	t.Helper()
	wantAll(t, l, rangesOf(p.numbers)...)
	wantBytes(t, l, p.bytes(p.numbers)+p.half, p.bytes(p.numbers[:p.safe]))
}

// draws a number: most of them near each other, some far off, some that none is.
func draws(draw func(int) int) int {
	switch draw(12) {
	case 0:
		return edges[draw(len(edges))]
	case 1:
		return noNumbers[draw(len(noNumbers))]
	}
	return draw(60)
}

// step does one call on both, and tells which one it was, and how it went.
func step(t *testing.T, l *log.Log, p *plainLog, draw func(int) int) string {
	t.Helper()
	switch draw(16) {
	case 0:
		want := p.sync()
		wantSync(t, l, want)
		return "sync " + want.Error()
	case 1:
		n := draw(20) - 4
		p.fails, p.steps = n >= 0, n
		l.Fail(n)
		return "fail"
	case 2:
		keep := draw(40) - 10
		p.crash(keep)
		l.Crash(keep)
		return "crash"
	case 3:
		n := draws(draw)
		want := slices.Contains(p.numbers, n)
		no := api.OK
		if n < 0 || n > top {
			no = api.ErrRange
		}
		if is, err := l.Has(n); is != want || plain.Told(err) != no {
			t.Errorf("Has(%d) = %v, %v; want %v, %v", n, is, err, want, no)
		}
		return "has " + no.Error()
	}
	n := draws(draw)
	want, no := p.came(n)
	if is, err := l.Came(n); is != want || plain.Told(err) != no {
		t.Errorf("Came(%d) = %v, %v; want %v, %v", n, is, err, want, no)
	}
	if want {
		return "came new"
	}
	return "came " + no.Error()
}

// TestL2InARow: a Log does what the words say, whatever is called.
func TestL2InARow(t *testing.T) {
	sizes := map[int]int{}
	size := func(n int) int {
		if sizes[n] == 0 {
			sizes[n] = sizeOf(t, n)
		}
		return sizes[n]
	}
	told := map[string]int{}
	for seed := range 300 {
		draw := drawer(seed)
		l, p := log.New(), &plainLog{size: size}
		// Of half of them it is not asked in between, so that what is asked does not show.
		for range 300 {
			told[step(t, l, p, draw)]++
			if seed%2 == 0 {
				wantSame(t, l, p)
			}
		}
		wantSame(t, l, p)
	}
	for _, what := range []string{
		"came new", "came OK", "came ErrRange", "came ErrFull", "came ErrState", "sync OK", "sync ErrState", "fail", "crash", "has OK", "has ErrRange",
	} {
		if told[what] < 300 {
			t.Errorf("%s came %d times in the rows; want more", what, told[what])
		}
	}
}
