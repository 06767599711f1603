package link_test

import (
	"math"
	"slices"
	"strconv"
	"strings"
	"testing"

	"wanderwire/api"
	"wanderwire/link"
	"wanderwire/plain"
)

const (
	// full: so many may be on their way.
	full = 40
	// long: so many bytes may a letter have.
	long = 200
)

// Whom a letter cannot go to, and which letter there never is; some would be right if only their last bits were looked at.
var (
	noEnds   = []int{-1, -2, -256, math.MinInt, math.MinInt + 1, 2, 3, full, 256, 257, 1 << 32, 1<<32 + 1, math.MaxInt - 1, math.MaxInt}
	noPlaces = []int{-1, -2, -full, -256, math.MinInt, math.MinInt + 1, full, full + 1, 256, 257, 1 << 32, 1<<32 + 1, math.MaxInt - 1, math.MaxInt}
)

// letter: to whom, and its bytes.
type letter struct {
	to int
	b  string
}

func wantSend(t *testing.T, l *link.Link, to int, b string, want api.Errno) {
	t.Helper()
	if err := l.Send(to, b); plain.Told(err) != want {
		t.Errorf("Send(%d, %q) = %v; want %v", to, b, err, want)
	}
}

// wantGive: the i-th comes, and it is this one.
func wantGive(t *testing.T, l *link.Link, i int, want letter) {
	t.Helper()
	to, b, err := l.Give(i)
	if to != want.to || b != want.b || err != nil {
		t.Errorf("Give(%d) = %d, %q, %v; want %d, %q", i, to, b, err, want.to, want.b)
	}
}

// wantNoGive: there is no i-th, so nothing is told but the error.
func wantNoGive(t *testing.T, l *link.Link, i int) {
	t.Helper()
	to, b, err := l.Give(i)
	if to != 0 || b != "" || plain.Told(err) != api.ErrRange {
		t.Errorf("Give(%d) = %d, %q, %v; want 0, \"\", ErrRange", i, to, b, err)
	}
}

func wantLose(t *testing.T, l *link.Link, i int, want api.Errno) {
	t.Helper()
	if err := l.Lose(i); plain.Told(err) != want {
		t.Errorf("Lose(%d) = %v; want %v", i, err, want)
	}
}

func wantTwice(t *testing.T, l *link.Link, i int, want api.Errno) {
	t.Helper()
	if err := l.Twice(i); plain.Told(err) != want {
		t.Errorf("Twice(%d) = %v; want %v", i, err, want)
	}
}

func wantCount(t *testing.T, l *link.Link, want int) {
	t.Helper()
	if got := l.Count(); got != want {
		t.Errorf("Count() = %d; want %d", got, want)
	}
}

// wantAll: on their way are just these, in this order; behind it none is.
func wantAll(t *testing.T, l *link.Link, want []letter) {
	t.Helper()
	for i, w := range want {
		wantCount(t, l, len(want)-i)
		wantGive(t, l, 0, w)
	}
	wantCount(t, l, 0)
	wantNoGive(t, l, 0)
}

// sent: on their way are these alone.
func sent(t *testing.T, letters []letter) *link.Link {
	t.Helper()
	l := link.New()
	for _, x := range letters {
		wantSend(t, l, x.to, x.b, api.OK)
	}
	wantCount(t, l, len(letters))
	return l
}

// some letters, each of its own bytes, to both, though not by turns.
func some(n int) []letter {
	var l []letter
	for i := range n {
		l = append(l, letter{i / 2 % 2, "letter " + strconv.Itoa(i)})
	}
	return l
}

// without the i-th.
func without(l []letter, i int) []letter {
	return slices.Concat(l[:i], l[i+1:])
}

// doubled: one like the i-th is behind all.
func doubled(l []letter, i int) []letter {
	return slices.Concat(l, l[i:i+1])
}

// counts of letters at which each place is tried.
var counts = []int{1, 2, 3, 4, 5, 8, 17, full - 1, full}

func TestL1New(t *testing.T) {
	l := link.New()
	wantCount(t, l, 0)
	for _, i := range append([]int{0, 1}, noPlaces...) {
		wantNoGive(t, l, i)
		wantLose(t, l, i, api.ErrRange)
		wantTwice(t, l, i, api.ErrRange)
		wantCount(t, l, 0)
	}
	wantAll(t, l, nil)
}

func TestL1NewKnowsNoOther(t *testing.T) {
	a := sent(t, some(full))
	b := link.New()
	wantCount(t, b, 0)
	wantNoGive(t, b, 0)
	wantLose(t, b, 0, api.ErrRange)
	wantTwice(t, b, 0, api.ErrRange)
	// That one is full does not make the other one so.
	wantSend(t, a, 1, "more", api.ErrFull)
	wantSend(t, b, 1, "other", api.OK)
	wantTwice(t, b, 0, api.OK)
	wantCount(t, a, full)
	wantCount(t, b, 2)
	wantLose(t, a, 3, api.OK)
	wantCount(t, b, 2)
	wantGive(t, b, 1, letter{1, "other"})
	wantCount(t, a, full-1)
	wantAll(t, a, without(some(full), 3))
	wantAll(t, b, []letter{{1, "other"}})
}

func TestL1Send(t *testing.T) {
	letters := []letter{{0, "a"}, {1, "bc"}, {1, "a"}, {0, "hello, you"}, {0, "a"}, {1, "z"}}
	l := link.New()
	for i, x := range letters {
		wantCount(t, l, i)
		wantSend(t, l, x.to, x.b, api.OK)
		wantCount(t, l, i+1)
	}
	wantAll(t, l, letters)
	// All to one, and all to the other one.
	for to := range 2 {
		letters := []letter{{to, "x"}, {to, "y"}, {to, "z"}}
		wantAll(t, sent(t, letters), letters)
	}
}

func TestL1SendAlike(t *testing.T) {
	// Letters that are the same are as many as were sent.
	same := []letter{{1, "same"}, {1, "same"}, {0, "same"}, {1, "same"}}
	l := sent(t, same)
	wantLose(t, l, 1, api.OK)
	wantAll(t, l, without(same, 1))
}

func TestL1SendBehindAll(t *testing.T) {
	// Also when some came, were lost, or were doubled ahead.
	l := sent(t, some(4))
	wantGive(t, l, 0, some(4)[0])
	wantSend(t, l, 0, "new", api.OK)
	wantLose(t, l, 1, api.OK)
	wantSend(t, l, 1, "newer", api.OK)
	wantTwice(t, l, 0, api.OK)
	wantSend(t, l, 0, "newest", api.OK)
	all := some(4)
	wantAll(t, l, []letter{all[1], all[3], {0, "new"}, {1, "newer"}, all[1], {0, "newest"}})
	// And when none is left.
	wantSend(t, l, 1, "first", api.OK)
	wantSend(t, l, 0, "second", api.OK)
	wantAll(t, l, []letter{{1, "first"}, {0, "second"}})
}

func TestL1SendBytes(t *testing.T) {
	every := make([]byte, 256)
	for i := range every {
		every[i] = byte(i)
	}
	// Bytes as they are: none is an end, a line, or no letter.
	for _, b := range []string{string(every[:long]), string(every[256-long:]), "\x00", "\x00\x00a\x00", "\n", "a\r\n", " ", "\xff\xfe", "\xc3", "\xc3\xa4", "\xed\xa0\x80", "%d", "|.;"} {
		for to := range 2 {
			wantAll(t, sent(t, []letter{{to, b}, {1 - to, "end"}}), []letter{{to, b}, {1 - to, "end"}})
		}
	}
}

func TestL1SendSizes(t *testing.T) {
	for to := range 2 {
		for _, n := range []int{0, 1, 2, 63, 64, 127, 128, long - 1, long} {
			b := strings.Repeat("x", n)
			letters := []letter{{to, b}}
			wantAll(t, sent(t, letters), letters)
		}
		for _, n := range []int{long + 1, long + 2, 255, 256, 257, 256 + long, 1 << 16, 1<<16 + 1, 1 << 20} {
			l := sent(t, some(3))
			wantSend(t, l, to, strings.Repeat("x", n), api.ErrFull)
			wantAll(t, l, some(3))
			// Nor if none is on its way.
			wantSend(t, l, to, strings.Repeat("x", n), api.ErrFull)
			wantAll(t, l, nil)
		}
	}
	// Bytes are counted, not what they may mean.
	wantSend(t, link.New(), 0, strings.Repeat("\u00e4", long/2), api.OK)
	wantSend(t, link.New(), 0, strings.Repeat("\u00e4", long/2)+"a", api.ErrFull)
}

func TestL1SendNoBytes(t *testing.T) {
	// One of no bytes is a letter as any other.
	letters := []letter{{1, ""}, {0, ""}, {1, "a"}, {1, ""}}
	l := sent(t, letters)
	wantTwice(t, l, 0, api.OK)
	wantAll(t, l, doubled(letters, 0))
	l = link.New()
	for range full {
		wantSend(t, l, 1, "", api.OK)
	}
	wantSend(t, l, 1, "", api.ErrFull)
	wantCount(t, l, full)
}

func TestL1SendWrong(t *testing.T) {
	for _, n := range []int{0, 1, 3, full - 1} {
		l := sent(t, some(n))
		for _, to := range noEnds {
			for _, b := range []string{"", "a", strings.Repeat("x", long)} {
				wantSend(t, l, to, b, api.ErrRange)
				wantCount(t, l, n)
			}
		}
		wantAll(t, l, some(n))
	}
}

func TestL1SendFull(t *testing.T) {
	l := link.New()
	for i, x := range some(full) {
		wantCount(t, l, i)
		wantSend(t, l, x.to, x.b, api.OK)
	}
	for to := range 2 {
		for _, b := range []string{"", "a", strings.Repeat("x", long), strings.Repeat("x", long+1)} {
			wantSend(t, l, to, b, api.ErrFull)
			wantCount(t, l, full)
		}
	}
	wantAll(t, l, some(full))
	// All to one: it is not of each.
	for to := range 2 {
		l := link.New()
		for range full {
			wantSend(t, l, to, "a", api.OK)
		}
		wantSend(t, l, to, "a", api.ErrFull)
		wantSend(t, l, 1-to, "a", api.ErrFull)
		wantCount(t, l, full)
	}
	// All as long as may be: it is not of bytes.
	l = link.New()
	for range full {
		wantSend(t, l, 0, strings.Repeat("x", long), api.OK)
	}
	wantCount(t, l, full)
}

func TestL1SendFullNoMore(t *testing.T) {
	// Behind one that came, and one that was lost, one more may be sent, and just one.
	all := some(full)
	l := sent(t, all)
	wantGive(t, l, 7, all[7])
	wantSend(t, l, 1, "new", api.OK)
	wantSend(t, l, 1, "newer", api.ErrFull)
	wantLose(t, l, 0, api.OK)
	wantSend(t, l, 0, "newer", api.OK)
	wantSend(t, l, 0, "newest", api.ErrFull)
	wantAll(t, l, append(without(without(all, 7), 0), letter{1, "new"}, letter{0, "newer"}))
	// What is on its way counts, not what ever was.
	for i := range 10 * full {
		b := strconv.Itoa(i)
		wantSend(t, l, i%2, b, api.OK)
		wantTwice(t, l, 0, api.OK)
		wantGive(t, l, 1, letter{i % 2, b})
		wantLose(t, l, 0, api.OK)
		wantCount(t, l, 0)
	}
}

func TestL1SendOrder(t *testing.T) {
	// ErrRange ahead of ErrFull, whatever makes it full.
	tooLong := strings.Repeat("x", long+1)
	few, most := sent(t, some(2)), sent(t, some(full))
	for _, to := range noEnds {
		wantSend(t, few, to, tooLong, api.ErrRange)
		wantSend(t, most, to, "", api.ErrRange)
		wantSend(t, most, to, "a", api.ErrRange)
		wantSend(t, most, to, tooLong, api.ErrRange)
	}
	wantSend(t, few, 1, tooLong, api.ErrFull)
	wantSend(t, most, 1, "a", api.ErrFull)
	wantSend(t, most, 1, tooLong, api.ErrFull)
	wantAll(t, few, some(2))
	wantAll(t, most, some(full))
}

func TestL1Give(t *testing.T) {
	all := []letter{{0, "a"}, {1, "b"}, {1, "c"}, {0, "d"}, {0, "e"}}
	// The places are of those that are still on their way.
	l := sent(t, all)
	wantGive(t, l, 2, all[2])
	wantGive(t, l, 2, all[3])
	wantCount(t, l, 3)
	wantGive(t, l, 0, all[0])
	wantGive(t, l, 1, all[4])
	wantGive(t, l, 0, all[1])
	wantCount(t, l, 0)
	// From behind.
	l = sent(t, all)
	for i := len(all) - 1; i >= 0; i-- {
		wantGive(t, l, i, all[i])
		wantCount(t, l, i)
	}
}

func TestL1GiveEach(t *testing.T) {
	for _, n := range counts {
		for i := range n {
			l := sent(t, some(n))
			wantGive(t, l, i, some(n)[i])
			wantAll(t, l, without(some(n), i))
		}
	}
}

// giveInEachOrder: all that are left come, in every order.
func giveInEachOrder(t *testing.T, all []letter, order []int) {
	t.Helper()
	left, l := all, sent(t, all)
	for _, i := range order {
		wantGive(t, l, i, left[i])
		left = without(left, i)
		wantCount(t, l, len(left))
	}
	for i := range left {
		giveInEachOrder(t, all, append(slices.Clone(order), i))
	}
}

func TestL1GiveInEachOrder(t *testing.T) {
	giveInEachOrder(t, some(5), nil)
	giveInEachOrder(t, []letter{{1, "same"}, {0, "same"}, {1, ""}, {0, ""}}, nil)
}

func TestL1GiveOnce(t *testing.T) {
	// What came comes no more.
	l := sent(t, []letter{{1, "a"}})
	wantGive(t, l, 0, letter{1, "a"})
	wantNoGive(t, l, 0)
	wantLose(t, l, 0, api.ErrRange)
	wantTwice(t, l, 0, api.ErrRange)
	wantCount(t, l, 0)
}

func TestL1GiveWrong(t *testing.T) {
	for _, n := range append([]int{0}, counts...) {
		l := sent(t, some(n))
		for _, i := range append([]int{n, n + 1}, noPlaces...) {
			wantNoGive(t, l, i)
			wantCount(t, l, n)
		}
		wantAll(t, l, some(n))
	}
}

func TestL1GiveKeepsWhatCame(t *testing.T) {
	// What was told is not changed by what comes behind it.
	l := sent(t, some(3))
	_, b, _ := l.Give(1)
	_, c, _ := l.Give(0)
	for range full - 1 {
		wantSend(t, l, 0, "other bytes", api.OK)
	}
	if b != "letter 1" || c != "letter 0" {
		t.Errorf("what came is now %q and %q", b, c)
	}
}

func TestL1Lose(t *testing.T) {
	all := []letter{{0, "a"}, {1, "b"}, {1, "c"}, {0, "d"}, {0, "e"}}
	l := sent(t, all)
	// At the end, in the midst, and at the beginning.
	wantLose(t, l, 4, api.OK)
	wantCount(t, l, 4)
	wantLose(t, l, 1, api.OK)
	wantCount(t, l, 3)
	wantLose(t, l, 0, api.OK)
	wantCount(t, l, 2)
	wantAll(t, l, []letter{all[2], all[3]})
}

func TestL1LoseEach(t *testing.T) {
	for _, n := range counts {
		for i := range n {
			l := sent(t, some(n))
			wantLose(t, l, i, api.OK)
			wantAll(t, l, without(some(n), i))
		}
	}
}

func TestL1LoseAll(t *testing.T) {
	front, behind := sent(t, some(full)), sent(t, some(full))
	for left := full - 1; left >= 0; left-- {
		wantLose(t, front, 0, api.OK)
		wantCount(t, front, left)
		wantLose(t, behind, left, api.OK)
		wantCount(t, behind, left)
	}
	for _, l := range []*link.Link{front, behind} {
		wantLose(t, l, 0, api.ErrRange)
		wantSend(t, l, 1, "new", api.OK)
		wantAll(t, l, []letter{{1, "new"}})
	}
}

func TestL1LoseWrong(t *testing.T) {
	for _, n := range append([]int{0}, counts...) {
		l := sent(t, some(n))
		for _, i := range append([]int{n, n + 1}, noPlaces...) {
			wantLose(t, l, i, api.ErrRange)
			wantCount(t, l, n)
		}
		wantAll(t, l, some(n))
	}
}

func TestL1Twice(t *testing.T) {
	all := []letter{{0, "a"}, {1, "b"}, {0, "c"}}
	// At the beginning, in the midst, and at the end.
	for i := range all {
		l := sent(t, all)
		wantTwice(t, l, i, api.OK)
		wantCount(t, l, 4)
		wantAll(t, l, doubled(all, i))
	}
	// All of them; then those that came of it, too.
	l := sent(t, all)
	for i := range 6 {
		wantTwice(t, l, i, api.OK)
		wantCount(t, l, 4+i)
	}
	wantAll(t, l, slices.Concat(all, all, all))
}

func TestL1TwiceEach(t *testing.T) {
	for _, n := range counts {
		if n == full {
			continue
		}
		for i := range n {
			l := sent(t, some(n))
			wantTwice(t, l, i, api.OK)
			wantAll(t, l, doubled(some(n), i))
		}
	}
}

func TestL1TwiceComesTwice(t *testing.T) {
	all := some(3)
	// One may come, or be lost, and the other one is there still, whichever it is.
	for _, c := range []struct{ gone, other int }{{1, 2}, {3, 1}} {
		l := sent(t, all)
		wantTwice(t, l, 1, api.OK)
		wantGive(t, l, c.gone, all[1])
		wantGive(t, l, c.other, all[1])
		wantAll(t, l, without(all, 1))
		l = sent(t, all)
		wantTwice(t, l, 1, api.OK)
		wantLose(t, l, c.gone, api.OK)
		wantGive(t, l, c.other, all[1])
		wantAll(t, l, without(all, 1))
	}
	// What is sent later is behind both.
	l := sent(t, all)
	wantTwice(t, l, 0, api.OK)
	wantSend(t, l, 1, "new", api.OK)
	wantTwice(t, l, 2, api.OK)
	wantAll(t, l, []letter{all[0], all[1], all[2], all[0], {1, "new"}, all[2]})
}

func TestL1TwiceSizes(t *testing.T) {
	for to := range 2 {
		for _, n := range []int{0, 1, long - 1, long} {
			letters := []letter{{1 - to, "a"}, {to, strings.Repeat("x", n)}}
			l := sent(t, letters)
			wantTwice(t, l, 1, api.OK)
			wantAll(t, l, doubled(letters, 1))
		}
	}
}

func TestL1TwiceFull(t *testing.T) {
	for i := range full {
		l := sent(t, some(full))
		wantTwice(t, l, i, api.ErrFull)
		wantAll(t, l, some(full))
	}
	// One less, then full by Twice itself: neither it nor Send may do more.
	l := sent(t, some(full-1))
	wantTwice(t, l, full-2, api.OK)
	wantCount(t, l, full)
	wantTwice(t, l, full-1, api.ErrFull)
	wantTwice(t, l, 0, api.ErrFull)
	wantSend(t, l, 0, "", api.ErrFull)
	wantLose(t, l, full-1, api.OK)
	wantTwice(t, l, 0, api.OK)
	wantTwice(t, l, 0, api.ErrFull)
	wantAll(t, l, doubled(some(full-1), 0))
	// From one letter on.
	l = sent(t, []letter{{1, "a"}})
	for n := 1; n < full; n++ {
		wantTwice(t, l, n-1, api.OK)
		wantCount(t, l, n+1)
	}
	wantTwice(t, l, 0, api.ErrFull)
	wantAll(t, l, slices.Repeat([]letter{{1, "a"}}, full))
}

func TestL1TwiceWrong(t *testing.T) {
	// When it is full, too: ErrRange ahead of ErrFull.
	for _, n := range append([]int{0}, counts...) {
		l := sent(t, some(n))
		for _, i := range append([]int{n, n + 1}, noPlaces...) {
			wantTwice(t, l, i, api.ErrRange)
			wantCount(t, l, n)
		}
		wantAll(t, l, some(n))
	}
}

func TestL1Count(t *testing.T) {
	l := link.New()
	for _, c := range []struct {
		do   func() error
		want int
	}{
		{func() error { return l.Send(0, "a") }, 1},
		{func() error { return l.Send(2, "b") }, 1},
		{func() error { return l.Send(1, "") }, 2},
		{func() error { return l.Twice(1) }, 3},
		{func() error { return l.Twice(3) }, 3},
		{func() error { return l.Lose(0) }, 2},
		{func() error { return l.Lose(2) }, 2},
		{func() error { _, _, err := l.Give(1); return err }, 1},
		{func() error { _, _, err := l.Give(1); return err }, 1},
		{func() error { return l.Lose(0) }, 0},
	} {
		c.do()
		// It may be asked as often as one likes.
		wantCount(t, l, c.want)
		wantCount(t, l, c.want)
	}
}

// plainLink: the chapter's words; each letter has a number by which it was sent, and those on their way are found by going over all numbers.
type plainLink struct {
	next int
	on   map[int]letter
}

// numbers of those that are on their way.
func (p *plainLink) numbers() []int {
	var l []int
	for n := range p.next {
		if _, is := p.on[n]; is {
			l = append(l, n)
		}
	}
	return l
}

func (p *plainLink) send(x letter) api.Errno {
	switch {
	case x.to != 0 && x.to != 1:
		return api.ErrRange
	case len(p.on) == full, len(x.b) > long:
		return api.ErrFull
	}
	p.on[p.next] = x
	p.next++
	return api.OK
}

func (p *plainLink) find(i int) (int, api.Errno) {
	all := p.numbers()
	if i < 0 || i >= len(all) {
		return 0, api.ErrRange
	}
	return all[i], api.OK
}

func (p *plainLink) give(i int) (letter, api.Errno) {
	n, no := p.find(i)
	if no != api.OK {
		return letter{}, no
	}
	x := p.on[n]
	delete(p.on, n)
	return x, api.OK
}

func (p *plainLink) twice(i int) api.Errno {
	n, no := p.find(i)
	if no != api.OK {
		return no
	}
	return p.send(p.on[n])
}

// drawer gives numbers below the one that is asked, the same ones of each seed.
func drawer(seed int) func(n int) int {
	turn := seed*7919 + 1
	return func(n int) int {
		turn = (turn*1103515245 + 12345) & (1<<31 - 1)
		return turn >> 12 % n
	}
}

// drawLetter, now and then one that cannot be sent.
func drawLetter(draw func(n int) int) letter {
	to := []int{0, 0, 0, 0, 1, 1, 1, 1, -1, 2}[draw(10)]
	size := []int{0, 1, 5, 5, 5, 5, long, long + 1}[draw(8)]
	return letter{to, strings.Repeat(string([]byte{byte(draw(256))}), size)}
}

func TestL1InARow(t *testing.T) {
	told := map[string]int{}
	for seed := range 200 {
		l, p, draw := link.New(), &plainLink{on: map[int]letter{}}, drawer(seed)
		// sends: of ten; with few of them a link is often empty, with many it is often full.
		sends := 2 + seed%7
		for range 150 {
			i := draw(len(p.on)+2+draw(2)) - 1
			what, no := "send ", api.OK
			switch kind := draw(10); {
			case kind < sends:
				x := drawLetter(draw)
				no = p.send(x)
				wantSend(t, l, x.to, x.b, no)
			case draw(3) == 0:
				what, no = "twice ", p.twice(i)
				wantTwice(t, l, i, no)
			case draw(2) == 0:
				what = "lose "
				_, no = p.give(i)
				wantLose(t, l, i, no)
			default:
				var x letter
				what = "give "
				if x, no = p.give(i); no == api.OK {
					wantGive(t, l, i, x)
				} else {
					wantNoGive(t, l, i)
				}
			}
			told[what+no.Error()]++
			wantCount(t, l, len(p.on))
		}
		var left []letter
		for _, n := range p.numbers() {
			left = append(left, p.on[n])
		}
		wantAll(t, l, left)
	}
	for _, what := range []string{"send OK", "send ErrRange", "send ErrFull", "twice OK", "twice ErrRange", "twice ErrFull", "lose OK", "lose ErrRange", "give OK", "give ErrRange"} {
		if told[what] < 100 {
			t.Errorf("%s came %d times in the rows; want more", what, told[what])
		}
	}
}
