package talk_test

import (
	"slices"
	"strings"
	"testing"

	"wanderwire/api"
	"wanderwire/end"
	"wanderwire/plain"
	"wanderwire/talk"
)

// drawer gives numbers below the one that is asked, the same ones of each seed.
func drawer(seed int) func(n int) int {
	turn := seed*7919 + 1
	return func(n int) int {
		turn = (turn*1103515245 + 12345) & (1<<31 - 1)
		return turn >> 12 % n
	}
}

// heard: a Talk, how much of its text each one wrote, and what each one read.
type heard struct {
	*talk.Talk
	wrote [2]int
	read  [2]string
}

// writes some more by one, as far as its text goes.
func (h *heard) writes(t *testing.T, who, n int) {
	t.Helper()
	from := h.wrote[who]
	h.wrote[who] = min(most, from+n)
	wantWrite(t, h.Talk, who, texts[who][from:h.wrote[who]], api.OK)
}

// reads some by one: what was read is always the beginning of what the other one wrote.
func (h *heard) reads(t *testing.T, who, n int) {
	t.Helper()
	got, err := h.Read(who, n)
	h.read[who] += got
	if err != nil || len(got) > n || !strings.HasPrefix(texts[1-who][:h.wrote[1-who]], h.read[who]) {
		t.Fatalf("Read(%d, %d) = %q, %v; read so far: %q", who, n, got, err, h.read[who])
	}
}

// done: whether all that was written was read.
func (h *heard) done() bool {
	return len(h.read[0]) == h.wrote[1] && len(h.read[1]) == h.wrote[0]
}

// finish, from now on without a loss: all that was written comes.
func (h *heard) finish(t *testing.T, n int) {
	t.Helper()
	for range h.Count() {
		wantCome(t, h.Talk, 0, api.OK)
	}
	for turns := 0; !h.done(); turns++ {
		if turns > 4*most {
			t.Fatalf("after %d turns %q and %q are read", turns, h.read[0], h.read[1])
		}
		for who := range 2 {
			h.reads(t, who, n)
			goes(t, h.Talk, who)
		}
	}
}

// TestT1BothWays: of any window, and however few are read at a time, all of it comes, both ways at once.
func TestT1BothWays(t *testing.T) {
	for _, window := range windows {
		for _, n := range []int{1, 2, 7, 20, most, 1000} {
			h := &heard{Talk: fresh(t, window)}
			h.writes(t, 0, most)
			h.writes(t, 1, most)
			h.finish(t, n)
			// All of it is told to be there, and no more comes.
			for who := range 2 {
				goes(t, h.Talk, who)
				wantRead(t, h.Talk, 1-who, most, "")
			}
		}
	}
}

// TestT1OneWay: also if one has nothing to say, or both have nothing.
func TestT1OneWay(t *testing.T) {
	for _, window := range []int{1, 7, maxWindow} {
		for who := range 2 {
			h := &heard{Talk: fresh(t, window)}
			h.finish(t, 1)
			h.writes(t, who, most)
			h.finish(t, 1)
			if h.read[1-who] != texts[who] || h.read[who] != "" {
				t.Errorf("window %d: %q and %q are read", window, h.read[0], h.read[1])
			}
		}
	}
}

// fewest: of so few packets, whichever of them come, there are no more gaps than one may know of, even with all that come later.
const fewest = 2*maxRanges - 2

// TestT1BadLink: of what is lost, doubled and turned round just the beginning of what was written is read, and when the link is good again all of it.
func TestT1BadLink(t *testing.T) {
	told := map[string]int{}
	for seed := range 600 {
		draw := drawer(seed)
		h := &heard{Talk: fresh(t, windows[draw(len(windows))])}
		var made [2]int
		for range 150 {
			who := draw(2)
			switch what := draw(9); {
			case what == 0:
				h.writes(t, who, draw(20))
			case what == 1:
				h.reads(t, who, draw(12))
			case what < 4 || h.Count() == 0:
				if made[who] < fewest && h.Count() < full {
					wantSend(t, h.Talk, who, api.OK)
					made[who]++
				}
			case what == 4:
				wantLose(t, h.Talk, draw(h.Count()), api.OK)
				told["lost"]++
			case what == 5 && h.Count() < full:
				wantTwice(t, h.Talk, draw(h.Count()), api.OK)
				told["twice"]++
			default:
				wantCome(t, h.Talk, draw(h.Count()), api.OK)
				told["came"]++
			}
		}
		if h.done() {
			told["done ahead"]++
		}
		for who := range 2 {
			h.writes(t, who, most)
		}
		h.finish(t, 1+draw(20))
		if h.read[0] != texts[1] || h.read[1] != texts[0] {
			t.Errorf("seed %d: %q and %q are read", seed, h.read[0], h.read[1])
		}
	}
	for _, what := range []string{"lost", "twice", "came"} {
		if told[what] < 5000 {
			t.Errorf("%s: %d times; want more", what, told[what])
		}
	}
	if told["done ahead"] > 300 {
		t.Errorf("%d times all had come while the link was bad; want less", told["done ahead"])
	}
}

// TestT1AllLost: one that lost all, again and again, is as good as ever when the link is good again.
func TestT1AllLost(t *testing.T) {
	for _, window := range []int{1, 20, maxWindow} {
		h := &heard{Talk: fresh(t, window)}
		h.writes(t, 0, most)
		h.writes(t, 1, most)
		for range 20 {
			for i := range full {
				wantSend(t, h.Talk, i%2, api.OK)
			}
			for range full {
				wantLose(t, h.Talk, h.Count()/2, api.OK)
			}
		}
		h.finish(t, 9)
	}
}

// letter on the way to one of two.
type letter struct {
	to int
	b  string
}

// plainTalk: the chapter's words, of two Ends and a list.
type plainTalk struct {
	ends [2]*end.End
	way  []letter
}

func newPlain(t *testing.T, window int) *plainTalk {
	t.Helper()
	p := &plainTalk{}
	for who := range p.ends {
		e, err := end.New(window)
		if err != nil {
			t.Fatal(err)
		}
		p.ends[who] = e
	}
	return p
}

// isOne of the two?
func isOne(who int) bool { return who == 0 || who == 1 }

func (p *plainTalk) write(who int, data string) api.Errno {
	if !isOne(who) {
		return api.ErrRange
	}
	return plain.Told(p.ends[who].Write(data))
}

func (p *plainTalk) read(who, n int) (string, api.Errno) {
	if !isOne(who) {
		return "", api.ErrRange
	}
	b, err := p.ends[who].Read(n)
	return b, plain.Told(err)
}

func (p *plainTalk) send(who int) api.Errno {
	switch {
	case !isOne(who):
		return api.ErrRange
	case len(p.way) == full:
		return api.ErrFull
	}
	p.way = append(p.way, letter{1 - who, p.ends[who].Make()})
	return api.OK
}

func (p *plainTalk) isThere(i int) bool { return 0 <= i && i < len(p.way) }

func (p *plainTalk) lose(i int) api.Errno {
	if !p.isThere(i) {
		return api.ErrRange
	}
	p.way = slices.Delete(p.way, i, i+1)
	return api.OK
}

func (p *plainTalk) come(i int) api.Errno {
	if !p.isThere(i) {
		return api.ErrRange
	}
	l := p.way[i]
	p.lose(i)
	return plain.Told(p.ends[l.to].Take(l.b))
}

func (p *plainTalk) twice(i int) api.Errno {
	switch {
	case !p.isThere(i):
		return api.ErrRange
	case len(p.way) == full:
		return api.ErrFull
	}
	p.way = append(p.way, p.way[i])
	return api.OK
}

// step does one call on both, and tells which one it was, and how it went.
func step(t *testing.T, k *talk.Talk, p *plainTalk, draw func(int) int, sends int) string {
	t.Helper()
	who := []int{0, 0, 0, 0, 0, 1, 1, 1, 1, 1, -1, 2}[draw(12)]
	// A place, now and then one ahead of the first one, or behind the last one.
	i := draw(len(p.way)+2+draw(2)) - 1
	switch kind := draw(20); {
	case kind == 0:
		data := strings.Repeat(string([]byte{byte(draw(256))}), draw(20))
		if draw(12) == 0 {
			data = strings.Repeat("x", most+1)
		}
		want := p.write(who, data)
		wantWrite(t, k, who, data, want)
		return "write " + want.Error()
	case kind < 3:
		n := draw(15) - 1
		want, no := p.read(who, n)
		if got, err := k.Read(who, n); got != want || plain.Told(err) != no {
			t.Errorf("Read(%d, %d) = %q, %v; want %q, %v", who, n, got, err, want, no)
		}
		return "read " + no.Error()
	case kind < 3+sends:
		want := p.send(who)
		wantSend(t, k, who, want)
		return "send " + want.Error()
	case draw(4) == 0:
		want := p.twice(i)
		wantTwice(t, k, i, want)
		return "twice " + want.Error()
	case draw(4) == 0:
		want := p.lose(i)
		wantLose(t, k, i, want)
		return "lose " + want.Error()
	}
	want := p.come(i)
	wantCome(t, k, i, want)
	return "come " + want.Error()
}

// TestT1InARow: a Talk, and two Ends with a list between them, do the same, whatever is called.
func TestT1InARow(t *testing.T) {
	told := map[string]int{}
	for seed := range 600 {
		draw := drawer(seed)
		window := windows[draw(len(windows))]
		k, p := fresh(t, window), newPlain(t, window)
		// sends: of twenty; with few of them none is often on its way, with many it is often full.
		sends := 5 + seed%11
		for range 400 {
			told[step(t, k, p, draw, sends)]++
			wantCount(t, k, len(p.way))
		}
		for who := range 2 {
			want, _ := p.read(who, most)
			wantRead(t, k, who, most, want)
		}
	}
	for _, what := range []string{
		"write OK", "write ErrRange", "write ErrFull", "read OK", "read ErrRange", "send OK", "send ErrRange", "send ErrFull",
		"twice OK", "twice ErrRange", "twice ErrFull", "lose OK", "lose ErrRange", "come OK", "come ErrRange", "come ErrFull",
	} {
		if told[what] < 500 {
			t.Errorf("%s came %d times in the rows; want more", what, told[what])
		}
	}
}
