package credit_test

import (
	"math"
	"testing"

	"wanderwire/api"
	"wanderwire/credit"
	"wanderwire/plain"
)

const (
	wide = api.MaxWindow
	top  = api.MaxNumber
)

// What a window, a place, and how many are read can not be; some would be right if only their last bits were looked at.
var (
	noWindows = []int{0, -1, -2, -wide, math.MinInt, math.MinInt + 1, wide + 1, wide + 2, 1 << 16, 1<<16 + 5, 1 << 32, 1<<32 + 5, math.MaxInt - 1, math.MaxInt}
	noPlaces  = []int{-1, -2, -wide, -top, math.MinInt, math.MinInt + 1, top + 1, top + 2, 1 << 32, 1<<32 + 5, math.MaxInt - 1, math.MaxInt}
	noCounts  = []int{-1, -2, -wide, -top, -1 << 32, math.MinInt, math.MinInt + 1}
	tooMany   = []int{wide + 1, top, top + 1, 1 << 32, 1<<32 + 1, 1 << 62, math.MaxInt - 1, math.MaxInt}
)

// windows: the edges, odd and even ones.
var windows = []int{1, 2, 3, 4, 5, 6, 7, 10, 63, 64, 499, 500, wide - 1, wide}

func create(t *testing.T, window int) *credit.Credit {
	t.Helper()
	c, err := credit.New(window)
	if c == nil || err != nil {
		t.Fatalf("New(%d) = %v, %v; want one", window, c, err)
	}
	return c
}

func wantIs(t *testing.T, c *credit.Credit, limit, left int) {
	t.Helper()
	if c.Limit() != limit || c.Left() != left {
		t.Errorf("Limit() = %d, Left() = %d; want %d, %d", c.Limit(), c.Left(), limit, left)
	}
}

// wantTake also that what is refused changes neither Limit nor Left.
func wantTake(t *testing.T, c *credit.Credit, upto int, want api.Errno) {
	t.Helper()
	limit, left := c.Limit(), c.Left()
	if err := c.Take(upto); plain.Told(err) != want {
		t.Errorf("Take(%d) = %v; want %v", upto, err, want)
	}
	if want != api.OK {
		wantIs(t, c, limit, left)
	}
}

// wantRead also that it is the Limit then, and that so many less are left.
func wantRead(t *testing.T, c *credit.Credit, n, want int) {
	t.Helper()
	left := c.Left()
	got, err := c.Read(n)
	if got != want || err != nil {
		t.Errorf("Read(%d) = %d, %v; want %d", n, got, err, want)
	}
	wantIs(t, c, want, left-n)
}

// wantReadErr also that nothing is changed.
func wantReadErr(t *testing.T, c *credit.Credit, n int, want api.Errno) {
	t.Helper()
	limit, left := c.Limit(), c.Left()
	got, err := c.Read(n)
	if got != 0 || plain.Told(err) != want {
		t.Errorf("Read(%d) = %d, %v; want 0, %v", n, got, err, want)
	}
	wantIs(t, c, limit, left)
}

// upTo: one whose Limit, a far one, is just limit; all up to it is there, and none was read since it was told.
func upTo(t *testing.T, window, limit int) *credit.Credit {
	t.Helper()
	c := create(t, window)
	// Steps as long as can be, and all nearly as long, so that each moves the Limit by just itself.
	far := limit - window
	steps := (far + window - 1) / window
	for i := range steps {
		if err := c.Take(c.Limit()); err != nil {
			t.Fatalf("Take at %d: %v", c.Limit(), err)
		}
		if _, err := c.Read(far*(i+1)/steps - far*i/steps); err != nil {
			t.Fatalf("Read at %d: %v", c.Limit(), err)
		}
	}
	wantTake(t, c, limit, api.OK)
	wantIs(t, c, limit, window)
	return c
}

func TestC1New(t *testing.T) {
	for _, window := range windows {
		c := create(t, window)
		wantIs(t, c, window, 0)
		// Nothing is there as yet.
		wantReadErr(t, c, 1, api.ErrFlow)
		wantRead(t, c, 0, window)
	}
	for window := 1; window <= wide; window++ {
		wantIs(t, create(t, window), window, 0)
	}
}

func TestC1NewWrong(t *testing.T) {
	for _, bad := range noWindows {
		if c, err := credit.New(bad); c != nil || plain.Told(err) != api.ErrRange {
			t.Errorf("New(%d) = %v, %v; want nil, ErrRange", bad, c, err)
		}
	}
}

func TestC1NewKnowsNoOther(t *testing.T) {
	c, d, e := create(t, 10), create(t, 10), create(t, 4)
	wantTake(t, c, 9, api.OK)
	wantIs(t, d, 10, 0)
	wantIs(t, e, 4, 0)
	wantRead(t, c, 7, 17)
	wantReadErr(t, d, 1, api.ErrFlow)
	wantTake(t, d, 11, api.ErrFlow)
	wantTake(t, d, 6, api.OK)
	wantRead(t, d, 5, 10)
	wantTake(t, e, 4, api.OK)
	wantRead(t, e, 4, 8)
	wantIs(t, c, 17, 2)
	wantIs(t, d, 10, 1)
	wantIs(t, e, 8, 0)
}

func TestC1Turns(t *testing.T) {
	c := create(t, 10)
	wantTake(t, c, 4, api.OK)
	wantIs(t, c, 10, 4)
	wantRead(t, c, 3, 10)
	wantTake(t, c, 10, api.OK)
	wantIs(t, c, 10, 7)
	wantRead(t, c, 2, 10)
	// Five since the Limit was told: the half. Then one more.
	wantRead(t, c, 1, 16)
	wantTake(t, c, 16, api.OK)
	wantIs(t, c, 16, 10)
	// They are counted anew from there on.
	wantRead(t, c, 5, 16)
	wantRead(t, c, 0, 16)
	wantRead(t, c, 3, 24)
	wantRead(t, c, 2, 24)
	wantIs(t, c, 24, 0)
	wantTake(t, c, 24, api.OK)
	wantRead(t, c, 8, 34)
}

func TestC1Take(t *testing.T) {
	for _, window := range windows {
		c := create(t, window)
		wantTake(t, c, 0, api.OK)
		wantIs(t, c, window, 0)
		wantTake(t, c, window+1, api.ErrFlow)
		wantTake(t, c, window, api.OK)
		wantIs(t, c, window, window)
		wantTake(t, c, window+1, api.ErrFlow)
		wantTake(t, c, window+window, api.ErrFlow)
		wantTake(t, c, top, api.ErrFlow)
		wantRead(t, c, window, window+window)
	}
}

func TestC1TakeByOne(t *testing.T) {
	c := create(t, 7)
	for upto := range 8 {
		wantTake(t, c, upto, api.OK)
		wantIs(t, c, 7, upto)
	}
}

func TestC1TakeNotBeyond(t *testing.T) {
	c := create(t, 20)
	wantTake(t, c, 12, api.OK)
	// What is not beyond the greatest so far neither adds nor takes away, and hides nothing.
	for _, upto := range []int{0, 1, 11, 12, 5, 12} {
		wantTake(t, c, upto, api.OK)
		wantIs(t, c, 20, 12)
	}
	wantRead(t, c, 9, 20)
	// Nor is it in the way that it was read already.
	for _, upto := range []int{0, 8, 9, 10, 12} {
		wantTake(t, c, upto, api.OK)
		wantIs(t, c, 20, 3)
	}
	wantReadErr(t, c, 4, api.ErrFlow)
	wantTake(t, c, 13, api.OK)
	wantIs(t, c, 20, 4)
	wantRead(t, c, 4, 33)
	wantTake(t, c, 1, api.OK)
	wantIs(t, c, 33, 0)
}

func TestC1TakeWrong(t *testing.T) {
	for _, window := range windows {
		c := create(t, window)
		wantTake(t, c, window/2, api.OK)
		for _, bad := range noPlaces {
			wantTake(t, c, bad, api.ErrRange)
		}
		for _, far := range []int{window + 1, window + 2, top - 1, top} {
			wantTake(t, c, far, api.ErrFlow)
		}
		// No refused one is remembered as the greatest.
		wantIs(t, c, window, window/2)
		wantReadErr(t, c, window/2+1, api.ErrFlow)
		wantTake(t, c, window, api.OK)
		wantIs(t, c, window, window)
		wantRead(t, c, window, 2*window)
		wantReadErr(t, c, 1, api.ErrFlow)
	}
}

func TestC1TakeBehindALimit(t *testing.T) {
	c := create(t, 10)
	wantTake(t, c, 10, api.OK)
	wantRead(t, c, 6, 16)
	wantTake(t, c, 17, api.ErrFlow)
	wantTake(t, c, 16, api.OK)
	wantIs(t, c, 16, 10)
	// Read, but not so many that the Limit is told anew.
	wantRead(t, c, 5, 16)
	wantTake(t, c, 17, api.ErrFlow)
	wantRead(t, c, 1, 22)
	wantTake(t, c, 23, api.ErrFlow)
	wantTake(t, c, 17, api.OK)
	wantIs(t, c, 22, 5)
	wantTake(t, c, 22, api.OK)
	wantIs(t, c, 22, 10)
}

func TestC1ReadHalf(t *testing.T) {
	for _, window := range windows {
		half := window / 2
		// At once,
		c := create(t, window)
		wantTake(t, c, window, api.OK)
		wantRead(t, c, half, window)
		wantRead(t, c, 0, window)
		wantRead(t, c, 1, window+half+1)
		c = create(t, window)
		wantTake(t, c, window, api.OK)
		wantRead(t, c, half+1, window+half+1)
		// and one by one, when a Limit was told already.
		wantTake(t, c, window+half+1, api.OK)
		for range half {
			wantRead(t, c, 1, window+half+1)
		}
		wantRead(t, c, 1, window+2*(half+1))
		wantIs(t, c, window+2*(half+1), window-half-1)
	}
}

func TestC1ReadAll(t *testing.T) {
	for _, window := range windows {
		c := create(t, window)
		for turn := 1; turn <= 5; turn++ {
			wantTake(t, c, turn*window, api.OK)
			wantIs(t, c, turn*window, window)
			wantReadErr(t, c, window+1, api.ErrFlow)
			wantRead(t, c, window, (turn+1)*window)
			wantReadErr(t, c, 1, api.ErrFlow)
			wantRead(t, c, 0, (turn+1)*window)
		}
	}
}

func TestC1ReadOneMore(t *testing.T) {
	c := create(t, 10)
	wantTake(t, c, 4, api.OK)
	wantReadErr(t, c, 5, api.ErrFlow)
	wantRead(t, c, 1, 10)
	wantReadErr(t, c, 4, api.ErrFlow)
	wantRead(t, c, 3, 10)
	wantReadErr(t, c, 1, api.ErrFlow)
	// It was let already, but did not come.
	wantTake(t, c, 5, api.OK)
	wantReadErr(t, c, 2, api.ErrFlow)
	wantRead(t, c, 1, 10)
	wantTake(t, c, 6, api.OK)
	wantRead(t, c, 1, 16)
}

func TestC1ReadWrong(t *testing.T) {
	for _, window := range windows {
		c := create(t, window)
		for _, bad := range noCounts {
			wantReadErr(t, c, bad, api.ErrRange)
		}
		for _, bad := range tooMany {
			wantReadErr(t, c, bad, api.ErrFlow)
		}
		wantTake(t, c, window, api.OK)
		wantRead(t, c, window/2, window)
		for _, bad := range noCounts {
			wantReadErr(t, c, bad, api.ErrRange)
		}
		for _, bad := range tooMany {
			wantReadErr(t, c, bad, api.ErrFlow)
		}
		// Nor does what is refused count among what was read.
		wantRead(t, c, 0, window)
		wantTake(t, c, window+1, api.ErrFlow)
		wantRead(t, c, 1, window+window/2+1)
	}
}

func TestC1ReadFull(t *testing.T) {
	for _, window := range []int{wide - 1, wide} {
		half := window / 2
		// A Limit that would be MaxNumber, and one above it.
		c := upTo(t, window, top-window+1)
		wantReadErr(t, c, window, api.ErrFull)
		wantReadErr(t, c, window+1, api.ErrFlow)
		wantRead(t, c, window-1, top)
		wantIs(t, c, top, 1)

		c = upTo(t, window, top-half-1)
		for n := half + 2; n <= window; n++ {
			wantReadErr(t, c, n, api.ErrFull)
		}
		wantRead(t, c, half+1, top)

		// Up to the half of them can be read, for then the Limit stays.
		c = upTo(t, window, top-half)
		wantReadErr(t, c, half+1, api.ErrFull)
		wantRead(t, c, half, top-half)
		wantReadErr(t, c, 1, api.ErrFull)
		wantReadErr(t, c, window-half, api.ErrFull)
		wantReadErr(t, c, window-half+1, api.ErrFlow)
		wantRead(t, c, 0, top-half)
		wantTake(t, c, top-half+1, api.ErrFlow)
	}
}

func TestC1ReadFullAtTheEnd(t *testing.T) {
	for _, window := range []int{500, wide - 1, wide} {
		half := window / 2
		c := upTo(t, window, top)
		wantTake(t, c, top, api.OK)
		wantIs(t, c, top, window)
		for _, bad := range noPlaces {
			wantTake(t, c, bad, api.ErrRange)
		}
		wantReadErr(t, c, window, api.ErrFull)
		wantReadErr(t, c, half+1, api.ErrFull)
		for range half {
			wantRead(t, c, 1, top)
		}
		wantReadErr(t, c, 1, api.ErrFull)
		wantRead(t, c, 0, top)
		wantIs(t, c, top, window-half)
		wantTake(t, c, 0, api.OK)
		wantIs(t, c, top, window-half)
	}
}

func TestC1Order(t *testing.T) {
	c := upTo(t, wide, top)
	// Take: what is above MaxNumber is beyond every Limit too.
	wantTake(t, c, top+1, api.ErrRange)
	wantTake(t, create(t, 5), top+1, api.ErrRange)
	wantTake(t, create(t, 5), math.MaxInt, api.ErrRange)
	// Read: more than there is, and a Limit that would be above MaxNumber.
	for _, n := range append([]int{wide + 1}, tooMany...) {
		wantReadErr(t, c, n, api.ErrFlow)
	}
	for _, n := range noCounts {
		wantReadErr(t, c, n, api.ErrRange)
	}
	wantReadErr(t, c, wide, api.ErrFull)
}

// plainCredit: the chapter's words, byte by byte: which are let, which are there, which were read.
type plainCredit struct {
	window    int
	let       int
	there     []bool
	wasRead   []bool
	sinceTold int
}

func newPlain(window, most int) *plainCredit {
	return &plainCredit{window: window, let: window, there: make([]bool, most), wasRead: make([]bool, most)}
}

func (p *plainCredit) left() int {
	n := 0
	for i, is := range p.there {
		if is && !p.wasRead[i] {
			n++
		}
	}
	return n
}

// came: up to where.
func (p *plainCredit) came() int {
	n := 0
	for p.there[n] {
		n++
	}
	return n
}

func (p *plainCredit) take(upto int) api.Errno {
	if upto > p.let {
		return api.ErrFlow
	}
	for i := range upto {
		p.there[i] = true
	}
	return api.OK
}

func (p *plainCredit) read(n int) (int, api.Errno) {
	if n > p.left() {
		return 0, api.ErrFlow
	}
	place := 0
	for p.wasRead[place] {
		place++
	}
	for range n {
		p.wasRead[place] = true
		place++
		p.sinceTold++
	}
	if p.sinceTold > p.window/2 {
		p.let, p.sinceTold = place+p.window, 0
	}
	return p.let, api.OK
}

func TestC1InARow(t *testing.T) {
	told := map[string]int{}
	for seed := range 300 {
		turn := seed*7919 + 1
		draw := func(n int) int {
			turn = (turn*1103515245 + 12345) & (1<<31 - 1)
			return turn >> 12 % n
		}
		window := 1 + draw(12)
		c, p := create(t, window), newPlain(window, 2000)
		for range 60 {
			if draw(2) == 0 {
				upto := max(0, p.let-draw(2*window)+draw(4))
				want := p.take(upto)
				wantTake(t, c, upto, want)
				told["take "+want.Error()]++
			} else {
				n := draw(min(window, p.left()) + 2)
				before := p.let
				limit, want := p.read(n)
				if want == api.OK {
					wantRead(t, c, n, limit)
				} else {
					wantReadErr(t, c, n, want)
				}
				if p.let != before {
					told["limit"]++
				}
				told["read "+want.Error()]++
			}
			wantIs(t, c, p.let, p.left())
			// Never more than a window waits, and it never stands still.
			if c.Left() > window || (c.Left() == 0 && c.Limit() <= p.came()) {
				t.Errorf("window %d: Limit %d, Left %d, came up to %d", window, c.Limit(), c.Left(), p.came())
			}
		}
	}
	for _, what := range []string{"take OK", "take ErrFlow", "read OK", "read ErrFlow", "limit"} {
		if told[what] < 500 {
			t.Errorf("%s came %d times in the rows; want more", what, told[what])
		}
	}
}
