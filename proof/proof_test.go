package proof_test

import (
	"math"
	"testing"

	"wanderwire/api"
	"wanderwire/plain"
	"wanderwire/proof"
)

const (
	last = api.MaxPaths - 1
	top  = api.MaxNumber
	late = api.MaxTime
	// full: so many may be open.
	full = 8
)

// What a path, a number, and a time or a limit can not be; some would be right if only their last bits were looked at.
var (
	noPaths   = []int{-1, -2, -last, math.MinInt, math.MinInt + 1, last + 1, last + 2, full, 1 << 32, 1<<32 + 1, math.MaxInt - 1, math.MaxInt}
	noNumbers = []int{-1, -2, -top, math.MinInt, math.MinInt + 1, top + 1, top + 2, 1 << 32, 1<<32 + 5, math.MaxInt - 1, math.MaxInt}
	noTimes   = []int{-1, -2, -late, math.MinInt, math.MinInt + 1, late + 1, late + 2, 1 << 32, 1<<32 + 5, math.MaxInt - 1, math.MaxInt}
)

func wantAsk(t *testing.T, p *proof.Proofs, path, number, at int, want api.Errno) {
	t.Helper()
	if err := p.Ask(path, number, at); plain.Told(err) != want {
		t.Errorf("Ask(%d, %d, %d) = %v; want %v", path, number, at, err, want)
	}
}

func wantAnswer(t *testing.T, p *proof.Proofs, path, number, at, limit int, want bool, wantErr api.Errno) {
	t.Helper()
	is, err := p.Answer(path, number, at, limit)
	if is != want || plain.Told(err) != wantErr {
		t.Errorf("Answer(%d, %d, %d, %d) = %v, %v; want %v, %v", path, number, at, limit, is, err, want, wantErr)
	}
}

func wantOpen(t *testing.T, p *proof.Proofs, want int) {
	t.Helper()
	if got := p.Open(); got != want {
		t.Errorf("Open() = %d; want %d", got, want)
	}
}

// wantSo: it is told back so that it is open no more.
func wantSo(t *testing.T, p *proof.Proofs, path, number, at, limit int) {
	t.Helper()
	wantAnswer(t, p, path, number, at, limit, true, api.OK)
}

// wantNot: it is told back, and nothing is done.
func wantNot(t *testing.T, p *proof.Proofs, path, number, at, limit int) {
	t.Helper()
	wantAnswer(t, p, path, number, at, limit, false, api.OK)
}

// one: open is this alone.
func one(t *testing.T, path, number, at int) *proof.Proofs {
	t.Helper()
	p := proof.New()
	wantAsk(t, p, path, number, at, api.OK)
	return p
}

// eight: open are 10 to 17, on path after path, at 100 to 107.
func eight(t *testing.T) *proof.Proofs {
	t.Helper()
	p := proof.New()
	for i := range full {
		wantAsk(t, p, i%api.MaxPaths, 10+i, 100+i, api.OK)
	}
	return p
}

// wantEight: open are still just those of eight, where and when they were asked; behind it none is.
func wantEight(t *testing.T, p *proof.Proofs) {
	t.Helper()
	wantOpen(t, p, full)
	for i := range full {
		wantNot(t, p, i%api.MaxPaths, 10+i, 99+i, late)
		wantSo(t, p, i%api.MaxPaths, 10+i, 100+i, 0)
	}
	wantOpen(t, p, 0)
}

func TestP1New(t *testing.T) {
	p := proof.New()
	wantOpen(t, p, 0)
	for path := range api.MaxPaths {
		for _, number := range []int{0, 1, 7, top} {
			wantNot(t, p, path, number, 0, 0)
			wantNot(t, p, path, number, late, late)
		}
	}
	wantOpen(t, p, 0)
}

func TestP1NewKnowsNoOther(t *testing.T) {
	p, q := proof.New(), proof.New()
	for number := range full {
		wantAsk(t, p, 0, number, 5, api.OK)
	}
	wantOpen(t, q, 0)
	wantNot(t, q, 0, 3, 5, late)
	// Neither a clash, nor full.
	wantAsk(t, q, 1, 3, 6, api.OK)
	wantAsk(t, q, 1, 100, 6, api.OK)
	wantOpen(t, q, 2)
	wantOpen(t, p, full)
	wantSo(t, p, 0, 3, 5, 0)
	wantOpen(t, q, 2)
	wantSo(t, q, 1, 3, 6, 0)
	wantOpen(t, q, 1)
	wantOpen(t, p, full-1)
}

func TestP1Ask(t *testing.T) {
	p := proof.New()
	// Several on one path, and on all; later ones may be asked at earlier times.
	for i, c := range []struct{ path, number, at int }{
		{2, 40, 10}, {2, 30, 10}, {2, 50, 20}, {0, 7, 5}, {1, 8, 90}, {3, 9, 0},
	} {
		wantAsk(t, p, c.path, c.number, c.at, api.OK)
		wantOpen(t, p, i+1)
	}
	wantSo(t, p, 2, 30, 12, 2)
	wantSo(t, p, 3, 9, 12, 12)
	wantSo(t, p, 2, 50, 21, 3)
	wantSo(t, p, 1, 8, 90, 3)
	wantSo(t, p, 2, 40, 12, 2)
	wantSo(t, p, 0, 7, 5, 0)
	wantOpen(t, p, 0)
}

func TestP1AskEdges(t *testing.T) {
	for _, path := range []int{0, 1, last} {
		for _, number := range []int{0, 1, 63, 64, top - 1, top} {
			for _, at := range []int{0, 1, late - 1, late} {
				p := one(t, path, number, at)
				wantOpen(t, p, 1)
				wantSo(t, p, path, number, at, 0)
				wantOpen(t, p, 0)
			}
		}
	}
}

func TestP1AskWrong(t *testing.T) {
	p := one(t, 1, 5, 50)
	for _, bad := range noPaths {
		wantAsk(t, p, bad, 6, 50, api.ErrRange)
		wantAsk(t, p, bad, 0, 0, api.ErrRange)
		wantAsk(t, p, bad, top, late, api.ErrRange)
	}
	for _, bad := range noNumbers {
		for path := range api.MaxPaths {
			wantAsk(t, p, path, bad, 50, api.ErrRange)
		}
		wantAsk(t, p, 0, bad, 0, api.ErrRange)
		wantAsk(t, p, last, bad, late, api.ErrRange)
	}
	for _, bad := range noTimes {
		wantAsk(t, p, 1, 6, bad, api.ErrRange)
		wantAsk(t, p, 0, 0, bad, api.ErrRange)
		wantAsk(t, p, last, top, bad, api.ErrRange)
	}
	wantOpen(t, p, 1)
	wantNot(t, p, 1, 6, 50, late)
	wantSo(t, p, 1, 5, 50, 0)
}

func TestP1AskClash(t *testing.T) {
	for _, number := range []int{0, 5, top} {
		p := one(t, 1, number, 50)
		for path := range api.MaxPaths {
			for _, at := range []int{0, 49, 50, 51, late} {
				wantAsk(t, p, path, number, at, api.ErrClash)
			}
		}
		// It is open where and when it was asked first, and there alone.
		wantOpen(t, p, 1)
		wantNot(t, p, 0, number, 50, late)
		wantNot(t, p, 1, number, 49, late)
		wantNot(t, p, 1, number, 51, 0)
		wantSo(t, p, 1, number, 50, 0)
	}
}

func TestP1AskAgain(t *testing.T) {
	// Once it is open no more a number may be asked for anew, on whatever path, and earlier.
	p := one(t, 1, 5, 50)
	for _, c := range []struct{ path, at int }{{1, 50}, {2, 60}, {0, 0}, {3, late}, {3, 1}} {
		wantAsk(t, p, c.path, 5, c.at, api.ErrClash)
		wantSo(t, p, 1, 5, 50, 0)
		wantAsk(t, p, c.path, 5, c.at, api.OK)
		wantOpen(t, p, 1)
		wantSo(t, p, c.path, 5, c.at, 0)
		wantAsk(t, p, 1, 5, 50, api.OK)
	}
	// One that is only too old is open still.
	wantNot(t, p, 1, 5, late, 0)
	wantAsk(t, p, 1, 5, late, api.ErrClash)
}

func TestP1AskFull(t *testing.T) {
	p := eight(t)
	for _, number := range []int{0, 9, 18, top} {
		for path := range api.MaxPaths {
			wantAsk(t, p, path, number, 200, api.ErrFull)
		}
	}
	wantOpen(t, p, full)
	// One more behind an answer that was so, not behind one that was not.
	wantNot(t, p, 0, 11, 200, late)
	wantAsk(t, p, 0, 18, 200, api.ErrFull)
	wantSo(t, p, 1, 11, 200, late)
	wantOpen(t, p, full-1)
	wantAsk(t, p, 0, 18, 200, api.OK)
	wantOpen(t, p, full)
	wantAsk(t, p, 0, 19, 200, api.ErrFull)
	wantSo(t, p, 0, 18, 200, 0)
	wantAsk(t, p, 1, 11, 101, api.OK)
	wantEight(t, p)
}

func TestP1AskFullOnOnePath(t *testing.T) {
	for path := range api.MaxPaths {
		p := proof.New()
		for number := range full {
			wantAsk(t, p, path, number, 0, api.OK)
		}
		for other := range api.MaxPaths {
			wantAsk(t, p, other, full, 0, api.ErrFull)
		}
		wantOpen(t, p, full)
	}
}

func TestP1AskFullForgetsNone(t *testing.T) {
	// Those that are too old by far count as well, and can be told back still.
	p := proof.New()
	for number := range full {
		wantAsk(t, p, 0, number, 0, api.OK)
	}
	wantAsk(t, p, 0, full, late, api.ErrFull)
	for number := range full {
		wantSo(t, p, 0, number, late, late)
	}
	wantOpen(t, p, 0)
}

func TestP1AskOrder(t *testing.T) {
	p := eight(t)
	// ErrRange ahead of ErrClash and of ErrFull,
	for _, number := range []int{10, 17, 18} {
		for _, bad := range noPaths {
			wantAsk(t, p, bad, number, 100, api.ErrRange)
		}
		for _, bad := range noTimes {
			wantAsk(t, p, 0, number, bad, api.ErrRange)
		}
	}
	for _, bad := range noNumbers {
		wantAsk(t, p, 0, bad, 100, api.ErrRange)
	}
	// and ErrClash ahead of ErrFull.
	for number := 10; number < 10+full; number++ {
		for path := range api.MaxPaths {
			wantAsk(t, p, path, number, 100, api.ErrClash)
		}
	}
	wantAsk(t, p, 0, 18, 100, api.ErrFull)
	wantEight(t, p)
}

func TestP1Answer(t *testing.T) {
	p := eight(t)
	// Each of them by itself, and in no order.
	for done, i := range []int{3, 0, 7, 5, 1, 2, 6, 4} {
		wantOpen(t, p, full-done)
		wantSo(t, p, i%api.MaxPaths, 10+i, 130, 30)
	}
	wantOpen(t, p, 0)
}

func TestP1AnswerLimit(t *testing.T) {
	for _, asked := range []int{0, 1, 50, late - 1, late} {
		for _, limit := range []int{0, 1, 2, 49, 50, 1000, late - 1, late} {
			p := one(t, 1, 5, asked)
			// One later than limit, then just so.
			if asked+limit+1 <= late {
				wantNot(t, p, 1, 5, asked+limit+1, limit)
				wantNot(t, p, 1, 5, late, limit)
			}
			if asked > 0 {
				wantNot(t, p, 1, 5, asked-1, limit)
				wantNot(t, p, 1, 5, 0, limit)
			}
			wantOpen(t, p, 1)
			wantSo(t, p, 1, 5, min(asked+limit, late), limit)
			wantOpen(t, p, 0)
			// And at the very time.
			wantAsk(t, p, 1, 5, asked, api.OK)
			wantSo(t, p, 1, 5, asked, limit)
			wantOpen(t, p, 0)
		}
	}
}

func TestP1AnswerKeepsNoLimit(t *testing.T) {
	// A limit is of this answer alone: none is kept of another.
	p := one(t, 0, 5, 50)
	wantNot(t, p, 0, 5, 60, 9)
	wantNot(t, p, 0, 5, 61, 10)
	wantSo(t, p, 0, 5, 60, 10)
	wantAsk(t, p, 0, 5, 50, api.OK)
	wantNot(t, p, 0, 5, 49, late)
	wantSo(t, p, 0, 5, late, late)
}

func TestP1AnswerOnAnotherPath(t *testing.T) {
	for path := range api.MaxPaths {
		p := one(t, path, 5, 50)
		for other := range api.MaxPaths {
			if other != path {
				wantNot(t, p, other, 5, 50, 0)
				wantNot(t, p, other, 5, 60, late)
				wantOpen(t, p, 1)
			}
		}
		wantSo(t, p, path, 5, 60, late)
	}
}

func TestP1AnswerOfAnotherNumber(t *testing.T) {
	p := eight(t)
	for _, number := range []int{0, 9, 18, top} {
		for path := range api.MaxPaths {
			wantNot(t, p, path, number, 100, late)
		}
	}
	// Open, but not there.
	wantNot(t, p, 0, 11, 110, late)
	wantNot(t, p, 1, 10, 110, late)
	wantEight(t, p)
}

func TestP1AnswerTwice(t *testing.T) {
	p := eight(t)
	wantSo(t, p, 2, 12, 110, 10)
	for path := range api.MaxPaths {
		wantNot(t, p, path, 12, 110, 10)
		wantNot(t, p, path, 12, 102, late)
	}
	wantOpen(t, p, full-1)
	wantAsk(t, p, 2, 12, 102, api.OK)
	wantEight(t, p)
}

func TestP1AnswerWrong(t *testing.T) {
	p := eight(t)
	// Of one that is open, and of one that is not.
	for _, number := range []int{12, 18} {
		for _, bad := range noPaths {
			wantAnswer(t, p, bad, number, 102, late, false, api.ErrRange)
		}
		for _, bad := range noTimes {
			wantAnswer(t, p, 2, number, bad, late, false, api.ErrRange)
			wantAnswer(t, p, 2, number, 102, bad, false, api.ErrRange)
			wantAnswer(t, p, 0, number, 102, bad, false, api.ErrRange)
			wantAnswer(t, p, 2, number, 0, bad, false, api.ErrRange)
			wantAnswer(t, p, 2, number, bad, bad, false, api.ErrRange)
		}
	}
	for _, bad := range noNumbers {
		for path := range api.MaxPaths {
			wantAnswer(t, p, path, bad, 102, late, false, api.ErrRange)
			wantAnswer(t, p, path, bad, 0, 0, false, api.ErrRange)
		}
	}
	wantEight(t, p)
}

func TestP1AnswerWrongWithNoneOpen(t *testing.T) {
	p := proof.New()
	for _, bad := range noPaths {
		wantAnswer(t, p, bad, 0, 0, 0, false, api.ErrRange)
	}
	for _, bad := range noNumbers {
		wantAnswer(t, p, 0, bad, 0, 0, false, api.ErrRange)
	}
	for _, bad := range noTimes {
		wantAnswer(t, p, 0, 0, bad, 0, false, api.ErrRange)
		wantAnswer(t, p, 0, 0, 0, bad, false, api.ErrRange)
	}
	wantOpen(t, p, 0)
}

// plainProof: one that is open.
type plainProof struct{ path, number, at int }

// plainAsk: the chapter's words over a list, and what is open behind it.
func plainAsk(open []plainProof, n plainProof) ([]plainProof, api.Errno) {
	for _, o := range open {
		if o.number == n.number {
			return open, api.ErrClash
		}
	}
	if len(open) == full {
		return open, api.ErrFull
	}
	return append(open, n), api.OK
}

// plainAnswer: the same; whether it was so.
func plainAnswer(open []plainProof, n plainProof, limit int) ([]plainProof, bool) {
	var left []plainProof
	for _, o := range open {
		isSo := o.path == n.path && o.number == n.number && o.at <= n.at && n.at <= o.at+limit
		if !isSo {
			left = append(left, o)
		}
	}
	return left, len(left) < len(open)
}

func TestP1InARow(t *testing.T) {
	told := map[string]int{}
	for seed := range 200 {
		p, turn := proof.New(), seed*7919+1
		var open []plainProof
		draw := func(n int) int {
			turn = (turn*1103515245 + 12345) & (1<<31 - 1)
			return turn >> 12 % n
		}
		for range 80 {
			n := plainProof{path: draw(2 + seed%3), number: draw(12), at: draw(30)}
			if draw(2) == 0 {
				var want api.Errno
				open, want = plainAsk(open, n)
				wantAsk(t, p, n.path, n.number, n.at, want)
				told[want.Error()]++
			} else {
				limit, want := draw(30), false
				open, want = plainAnswer(open, n, limit)
				wantAnswer(t, p, n.path, n.number, n.at, limit, want, api.OK)
				if want {
					told["so"]++
				}
			}
			wantOpen(t, p, len(open))
		}
	}
	for _, what := range []string{"OK", "ErrClash", "ErrFull", "so"} {
		if told[what] < 100 {
			t.Errorf("%s came %d times in the rows; want more", what, told[what])
		}
	}
}
