package move_test

import (
	"slices"
	"testing"

	"wanderwire/api"
	"wanderwire/move"
	"wanderwire/plain"
)

// drawer gives numbers below the one that is asked, the same ones of each seed.
func drawer(seed int) func(n int) int {
	turn := seed*7919 + 1
	return func(n int) int {
		turn = (turn*1103515245 + 12345) & (1<<31 - 1)
		return turn >> 12 % n
	}
}

// question that is open.
type question struct{ path, number, at int }

// plainMover: the chapter's words, and those of the chapters below it, of lists alone.
type plainMover struct {
	limit int
	ways  [paths]api.Path
	at    int
	// seq: of the ID it goes by, or -1 as long as none was.
	seq int
	// were: the names by Seq; gone: the Seqs that are live no more.
	were, gone []int
	open       []question
}

func newPlain(limit int) *plainMover {
	p := &plainMover{limit: limit, seq: -1}
	p.ways[0].Known = true
	return p
}

func isWithin(n, most int) bool { return 0 <= n && n <= most }

// settle on the least ID that is live, if there was none so far.
func (p *plainMover) settle() {
	if p.seq < 0 {
		p.seq = p.next()
	}
}

// next ID: the least that is live and not the one so far, or -1.
func (p *plainMover) next() int {
	for seq := range p.were {
		if seq != p.seq && !slices.Contains(p.gone, seq) {
			return seq
		}
	}
	return -1
}

func (p *plainMover) offer(name int) api.Errno {
	switch {
	case !isWithin(name, top):
		return api.ErrRange
	case slices.Contains(p.were, name):
		return api.ErrClash
	case len(p.were)-len(p.gone) == p.limit || len(p.were) == ever:
		return api.ErrFull
	}
	p.were = append(p.were, name)
	return api.OK
}

func (p *plainMover) came(i, n int) api.Errno {
	if !isWithin(i, paths-1) || !isWithin(n, maxPacket) || p.ways[i].In > top-n {
		return api.ErrRange
	}
	p.ways[i].In += n
	return api.OK
}

func (p *plainMover) send(i, n int) api.Errno {
	if !isWithin(i, paths-1) || !isWithin(n, maxPacket) || p.ways[i].Out > top-n {
		return api.ErrRange
	}
	if w := p.ways[i]; !w.Known && w.Out+n > 3*w.In {
		return api.ErrFlow
	}
	p.ways[i].Out += n
	return api.OK
}

func (p *plainMover) ask(i, number, at int) api.Errno {
	switch {
	case !isWithin(i, paths-1):
		return api.ErrRange
	case !p.ways[i].Known && p.ways[i].In == 0:
		return api.ErrNone
	case !isWithin(number, top) || !isWithin(at, maxTime):
		return api.ErrRange
	case slices.ContainsFunc(p.open, func(q question) bool { return q.number == number }):
		return api.ErrClash
	case len(p.open) == maxOpen:
		return api.ErrFull
	}
	p.open = append(p.open, question{i, number, at})
	return api.OK
}

func (p *plainMover) answer(i, number, at, limit int) (bool, api.Errno) {
	if !isWithin(i, paths-1) || !isWithin(number, top) || !isWithin(at, maxTime) || !isWithin(limit, maxTime) {
		return false, api.ErrRange
	}
	for k, q := range p.open {
		if q.path == i && q.number == number && q.at <= at && at <= q.at+limit {
			p.open = slices.Delete(p.open, k, k+1)
			p.ways[i].Known = true
			return true, api.OK
		}
	}
	return false, api.OK
}

func (p *plainMover) move(i int) api.Errno {
	p.settle()
	switch {
	case !isWithin(i, paths-1):
		return api.ErrRange
	case !p.ways[i].Known:
		return api.ErrState
	case p.at == i:
		return api.ErrClash
	case p.next() < 0:
		return api.ErrNone
	}
	next := p.next()
	p.gone = append(p.gone, p.seq)
	p.at, p.seq = i, next
	return api.OK
}

// wantSame: a Mover is where the words have it, and so are its paths.
func wantSame(t *testing.T, m *move.Mover, p *plainMover) {
	t.Helper()
	p.settle()
	if p.seq < 0 {
		wantNowhere(t, m)
	} else {
		wantWhere(t, m, p.at, p.seq)
	}
	for i, w := range p.ways {
		wantPath(t, m, i, w.In, w.Out, w.Known)
	}
}

// step does one call on both, and tells which one it was, and how it went.
func step(t *testing.T, m *move.Mover, p *plainMover, draw func(int) int) string {
	t.Helper()
	i := draw(paths)
	number, at := draw(12), draw(30)
	// Now and then a number that none is.
	odd := func(n, no int) int {
		if draw(25) == 0 {
			return no
		}
		return n
	}
	i = odd(i, -1+draw(2)*(paths+1))
	switch draw(8) {
	case 0:
		name := odd(draw(200), -1)
		want := p.offer(name)
		wantOffer(t, m, name, want)
		return "offer " + want.Error()
	case 1:
		n := odd(draw(20)*draw(2), maxPacket+1)
		want := p.came(i, n)
		wantCame(t, m, i, n, want)
		return "came " + want.Error()
	case 2:
		n := odd(draw(60), -1)
		want := p.send(i, n)
		wantSend(t, m, i, n, want)
		return "send " + want.Error()
	case 3, 4:
		number, at = odd(number, top+1), odd(at, maxTime+1)
		want := p.ask(i, number, at)
		wantAsk(t, m, i, number, at, want)
		return "ask " + want.Error()
	case 5, 6:
		limit := odd(draw(20), -1)
		// Often one that is open, so that it may be so.
		if len(p.open) > 0 && draw(2) == 0 {
			q := p.open[draw(len(p.open))]
			i, number, at = q.path, q.number, q.at+draw(12)
		}
		want, no := p.answer(i, number, at, limit)
		if is, err := m.Answer(i, number, at, limit); is != want || plain.Told(err) != no {
			t.Errorf("Answer(%d, %d, %d, %d) = %v, %v; want %v, %v", i, number, at, limit, is, err, want, no)
		}
		if want {
			return "answer so"
		}
		return "answer " + no.Error()
	}
	want := p.move(i)
	wantMove(t, m, i, want)
	return "move " + want.Error()
}

// TestM1InARow: a Mover does what the words say, whatever is called.
func TestM1InARow(t *testing.T) {
	told := map[string]int{}
	for seed := range 600 {
		draw := drawer(seed)
		limit := 1 + seed%maxIDs
		m, p := fresh(t, limit), newPlain(limit)
		// Of half of them it is not asked in between, so that what is asked does not show.
		for range 300 {
			told[step(t, m, p, draw)]++
			if seed%2 == 0 {
				wantSame(t, m, p)
			}
		}
		wantSame(t, m, p)
	}
	for _, what := range []string{
		"offer OK", "offer ErrRange", "offer ErrClash", "offer ErrFull", "came OK", "came ErrRange", "send OK", "send ErrRange", "send ErrFlow",
		"ask OK", "ask ErrRange", "ask ErrNone", "ask ErrClash", "ask ErrFull", "answer so", "answer OK", "answer ErrRange",
		"move OK", "move ErrRange", "move ErrState", "move ErrClash", "move ErrNone",
	} {
		if told[what] < 500 {
			t.Errorf("%s came %d times in the rows; want more", what, told[what])
		}
	}
}
