package end_test

import (
	"maps"
	"slices"
	"strings"
	"testing"

	"wanderwire/api"
	"wanderwire/end"
	"wanderwire/packet"
	"wanderwire/plain"
)

// other: a text as long as can be, of other bytes than whole at most places.
var other = strings.Repeat("hello, you", most/10)

// drawer gives numbers below the one that is asked, the same ones of each seed.
func drawer(seed int) func(n int) int {
	turn := seed*7919 + 1
	return func(n int) int {
		turn = (turn*1103515245 + 12345) & (1<<31 - 1)
		return turn >> 12 % n
	}
}

// two Ends, what each writes, and what each has read.
type two struct {
	ends  [2]*end.End
	texts [2]string
	read  [2]string
}

// pair writes all of both texts.
func pair(t *testing.T, window int) *two {
	t.Helper()
	p := &two{texts: [2]string{whole, other}}
	for who := range p.ends {
		p.ends[who] = fresh(t, window)
		wantWrite(t, p.ends[who], p.texts[who], api.OK)
	}
	return p
}

// reads some by one, and tells if what was read is not the beginning of what was written.
func (p *two) reads(t *testing.T, who, n int) {
	t.Helper()
	ready := p.ends[who].Ready()
	got, err := p.ends[who].Read(n)
	p.read[who] += got
	if err != nil || len(got) != min(n, ready) || !strings.HasPrefix(p.texts[1-who], p.read[who]) {
		t.Fatalf("End %d, Read(%d) of %d: %q, %v; read so far: %q", who, n, ready, got, err, p.read[who])
	}
}

// done: whether all that was written was read.
func (p *two) done() bool { return p.read[0] == p.texts[1] && p.read[1] == p.texts[0] }

// finish in turns, none of which is lost.
func (p *two) finish(t *testing.T, n int) {
	t.Helper()
	for turns := 0; !p.done(); turns++ {
		if turns > 4*most {
			t.Fatalf("after %d turns %q and %q are read", turns, p.read[0], p.read[1])
		}
		for who := range p.ends {
			wantTake(t, p.ends[1-who], p.ends[who].Make(), api.OK)
			p.reads(t, 1-who, n)
		}
	}
}

// wantNoMore: all is told to be there, so no packet has a piece.
func (p *two) wantNoMore(t *testing.T) {
	t.Helper()
	for range 2 {
		for who := range p.ends {
			wantTake(t, p.ends[1-who], p.ends[who].Make(), api.OK)
		}
	}
	for who := range p.ends {
		b := p.ends[who].Make()
		_, l, err := packet.Parse(b, above(p.ends[1-who]))
		if err != nil || len(l) != 2 || l[0].Kind != api.Ack || l[1].Kind != api.Credit {
			t.Errorf("End %d makes %q still: %v, %v", who, b, l, err)
		}
		if p.ends[who].Ready() != 0 {
			t.Errorf("End %d has %d Ready still", who, p.ends[who].Ready())
		}
	}
}

// TestE2InTurns: of any window, and however few are read at a time, all that was written is read.
func TestE2InTurns(t *testing.T) {
	for _, window := range []int{1, 2, 3, 5, 19, 20, 21, 40, 41, 59, 60, 61, maxWindow - 1, maxWindow} {
		for _, n := range []int{1, 2, 7, 20, 60, 1000} {
			p := pair(t, window)
			p.finish(t, n)
			p.wantNoMore(t)
		}
	}
}

// TestE2OneWay: also if only one has something to tell, and writes it byte by byte.
func TestE2OneWay(t *testing.T) {
	for _, window := range []int{1, 7, maxWindow} {
		a, b := fresh(t, window), fresh(t, window)
		all := ""
		for i := range len(whole) {
			wantWrite(t, a, whole[i:i+1], api.OK)
			wantTake(t, b, a.Make(), api.OK)
			got, err := b.Read(1)
			if err != nil {
				t.Error(err)
			}
			all += got
			wantTake(t, a, b.Make(), api.OK)
		}
		if all != whole {
			t.Errorf("window %d: %q", window, all)
		}
		wantIs(t, a, 0, most-1, 0)
		wantIs(t, b, 0, most-1, 0)
	}
}

// TestE2Lost: a packet that is lost is none that came, and what it had comes again.
func TestE2Lost(t *testing.T) {
	a, b := wrote(t, 30, 45), fresh(t, 30)
	lost := a.Make()
	wantTake(t, b, a.Make(), api.OK)
	wantIs(t, b, 30, 1, 1)
	wantTake(t, a, b.Make(), api.OK)
	wantMake(t, a, 2, 1, ackOf(0, 0), creditOf(30))
	wantRead(t, b, 30, whole[:30])
	b.Make()
	wantMake(t, a, 3, 1, ackOf(0, 0), creditOf(30))
	wantTake(t, a, b.Make(), api.OK)
	a.Make()
	wantTake(t, b, packKnown(t, 5, 1, ackOf(2, 2, 0, 0), creditOf(30), part(30, 45)), api.OK)
	wantIs(t, b, 15, 5, 5, 1, 1)
	// What was lost comes after all: all of it is there already.
	wantTake(t, b, lost, api.OK)
	wantIs(t, b, 15, 5, 5, 1, 0)
	wantTake(t, b, lost, api.OK)
	wantIs(t, b, 15, 5, 5, 1, 0)
	wantRead(t, b, 60, whole[30:45])
}

// TestE2Order: packets that come the last first, and twice.
func TestE2Order(t *testing.T) {
	a, b := fresh(t, maxWindow), fresh(t, maxWindow)
	var way []string
	for i := 0; i < most; i += 5 {
		wantWrite(t, a, whole[i:i+5], api.OK)
		way = append(way, a.Make())
	}
	last := len(way) - 1
	for i, p := range slices.Backward(way) {
		wantTake(t, b, p, api.OK)
		wantTake(t, b, p, api.OK)
		wantIs(t, b, most, last, i)
	}
	wantRead(t, b, most, whole)
	for _, p := range way {
		wantTake(t, b, p, api.OK)
	}
	wantIs(t, b, 0, last, 0)
	wantTake(t, a, b.Make(), api.OK)
	wantMake(t, a, last+1, last, ackOf(0, 0), creditOf(maxWindow))
}

// letter on the way to one of two.
type letter struct {
	to int
	b  string
}

// TestE2OverALink: of what is lost, doubled and turned round just the beginning of what was written is read, and when the link is good again all of it.
func TestE2OverALink(t *testing.T) {
	told := map[string]int{}
	for seed := range 400 {
		draw := drawer(seed)
		p := pair(t, []int{1, 2, 5, 20, 33, 60, maxWindow}[draw(7)])
		var way []letter
		for range 100 {
			switch what := draw(8); {
			case what < 3 || len(way) == 0:
				who := draw(2)
				way = append(way, letter{1 - who, p.ends[who].Make()})
			case what == 3:
				way = slices.Delete(way, 0, 1)
				told["lost"]++
			case what == 4:
				way = append(way, way[draw(len(way))])
				told["twice"]++
			case what == 5:
				p.reads(t, draw(2), draw(12))
			default:
				i := draw(len(way))
				l := way[i]
				way = slices.Delete(way, i, i+1)
				err := p.ends[l.to].Take(l.b)
				told[plain.Told(err).Error()]++
				if no := plain.Told(err); no != api.OK && no != api.ErrFull {
					t.Fatalf("seed %d: Take(%q): %v", seed, l.b, err)
				}
			}
		}
		if slices.ContainsFunc(p.ends[:], func(e *end.End) bool { return len(e.Acked()) == maxRanges }) {
			// No one can know of another gap, so nothing more may come.
			told["full"]++
			continue
		}
		if p.done() {
			told["done ahead"]++
		}
		p.finish(t, 1+draw(20))
	}
	for _, what := range []string{"OK", "lost", "twice"} {
		if told[what] < 1000 {
			t.Errorf("%s came %d times; want more", what, told[what])
		}
	}
	if told["full"]+told["done ahead"] > 200 {
		t.Errorf("%d times no more could come, and %d times all had; want less", told["full"], told["done ahead"])
	}
}

// plainEnd: the chapter's words, byte by byte and number by number.
type plainEnd struct {
	window, let int
	out         string
	// told: which bytes; made: of each packet which bytes it had.
	told  map[int]bool
	made  []map[int]bool
	known int
	in    map[int]byte
	taken int
	limit int
	came  map[int]bool
}

func newPlain(window int) *plainEnd {
	return &plainEnd{window: window, let: window, told: map[int]bool{}, known: -1, in: map[int]byte{}, limit: window, came: map[int]bool{}}
}

func (p *plainEnd) write(data string) api.Errno {
	if len(p.out+data) > most {
		return api.ErrFull
	}
	p.out += data
	return api.OK
}

func (p *plainEnd) ready() int {
	n := 0
	for {
		if _, is := p.in[p.taken+n]; !is {
			return n
		}
		n++
	}
}

func (p *plainEnd) read(n int) (string, api.Errno) {
	if n < 0 {
		return "", api.ErrRange
	}
	var b []byte
	for range min(n, p.ready()) {
		b = append(b, p.in[p.taken])
		p.taken++
	}
	if p.taken-(p.limit-p.window) > p.window/2 {
		p.limit = p.taken + p.window
	}
	return string(b), api.OK
}

// acked: from above, one by one.
func (p *plainEnd) acked() []api.Range {
	var l []api.Range
	for _, n := range slices.Backward(slices.Sorted(maps.Keys(p.came))) {
		if last := len(l) - 1; last >= 0 && l[last].Lo == n+1 {
			l[last].Lo = n
			continue
		}
		l = append(l, api.Range{Lo: n, Hi: n})
	}
	return l
}

// pieces: each byte that is missing is behind the last one, or begins another one.
func (p *plainEnd) pieces() []api.Piece {
	var l []api.Piece
	for place := range len(p.out) {
		if p.told[place] || place >= p.let {
			continue
		}
		last := len(l) - 1
		if last >= 0 && l[last].At+len(l[last].Data) == place && len(l[last].Data) < maxPiece {
			l[last].Data += p.out[place : place+1]
			continue
		}
		l = append(l, api.Piece{At: place, Data: p.out[place : place+1]})
	}
	return l[:min(3, len(l))]
}

func (p *plainEnd) make(t *testing.T) string {
	t.Helper()
	var l []api.Frame
	if len(p.came) > 0 {
		var nums []int
		for _, r := range p.acked() {
			nums = append(nums, r.Hi, r.Lo)
		}
		l = append(l, ackOf(nums...))
	}
	l = append(l, creditOf(p.limit))
	had := map[int]bool{}
	for _, piece := range p.pieces() {
		l = append(l, saying(piece.At, piece.Data))
		for i := range len(piece.Data) {
			had[piece.At+i] = true
		}
	}
	b := packKnown(t, len(p.made), p.known, l...)
	p.made = append(p.made, had)
	return b
}

func (p *plainEnd) take(b string) api.Errno {
	next := 0
	for n := range p.came {
		next = max(next, n+1)
	}
	n, l, err := packet.Parse(b, next)
	if err != nil {
		return plain.Told(err)
	}
	if p.came[n] {
		return api.OK
	}
	after := *p
	after.told, after.in, after.came = maps.Clone(p.told), maps.Clone(p.in), maps.Clone(p.came)
	for _, f := range l {
		if no := after.takeFrame(f); no != api.OK {
			return no
		}
	}
	after.came[n] = true
	if len(after.acked()) > maxRanges {
		return api.ErrFull
	}
	*p = after
	return api.OK
}

func (p *plainEnd) takeFrame(f api.Frame) api.Errno {
	switch f.Kind {
	case api.Ack:
		for i := 0; i < len(f.Nums); i += 2 {
			for n := f.Nums[i]; n >= f.Nums[i+1]; n-- {
				if n >= len(p.made) {
					return api.ErrState
				}
				p.known = max(p.known, n)
				maps.Copy(p.told, p.made[n])
			}
		}
		return api.OK
	case api.Credit:
		if f.Nums[0] > p.let {
			p.let = f.Nums[0]
		}
		return api.OK
	case api.Stream:
		return p.takePiece(f.Nums[0], f.Data)
	}
	return api.ErrShape
}

func (p *plainEnd) takePiece(at int, data string) api.Errno {
	switch {
	case at+len(data) > top:
		return api.ErrRange
	case at+len(data) > p.limit:
		return api.ErrFlow
	case at > most:
		return api.ErrRange
	case at+len(data) > most:
		return api.ErrFull
	}
	for i := range len(data) {
		if was, is := p.in[at+i]; is && was != data[i] {
			return api.ErrClash
		}
		p.in[at+i] = data[i]
	}
	return api.OK
}

// craft has a frame that may be right or wrong for one that has made so many packets, and to which text is written.
func craft(draw func(int) int, made int, text string) api.Frame {
	switch draw(8) {
	case 0, 1:
		hi := draw(made + 2)
		lo := draw(hi + 1)
		if lo > 3 {
			return ackOf(hi, lo, lo-2, draw(lo-1))
		}
		return ackOf(hi, lo)
	case 2:
		return creditOf(draw(most + 5))
	case 3:
		return saying([]int{most, most + 1, 999, top, top - 2}[draw(5)], "abc"[:draw(4)])
	case 4:
		return []api.Frame{say(api.Ping), say(api.Probe, draw(9)), say(api.Answer, draw(9)), say(api.Issue, draw(9), draw(9)), say(api.Retire, draw(9))}[draw(5)]
	case 5:
		at := draw(most)
		return saying(at, "?")
	}
	at := draw(most)
	return saying(at, text[at:min(most, at+draw(maxPiece+1))])
}

// spoil has bytes that are nearly those of a packet.
func spoil(draw func(int) int, b string) string {
	at := draw(len(b))
	switch draw(3) {
	case 0:
		return b[:at]
	case 1:
		return b[:at] + string([]byte{byte(draw(256))}) + b[at+1:]
	}
	return b[:at] + b
}

// TestE2AsPlain: two Ends, and two that go by the chapter's words, do the same, whatever comes.
func TestE2AsPlain(t *testing.T) {
	told := map[string]int{}
	for seed := range 600 {
		draw := drawer(seed)
		window := []int{1, 3, 10, 25, 60, 70, maxWindow}[draw(7)]
		ends := [2]*end.End{fresh(t, window), fresh(t, window)}
		plains := [2]*plainEnd{newPlain(window), newPlain(window)}
		texts := [2]string{whole, other}
		way := []letter{{0, "\x01\x00\x04\x05"}}
		// At times many packets are lost, so that it shows by how long the numbers are which one is known.
		for range 125 * draw(2) {
			for who := range ends {
				wantMade(t, ends[who], plains[who].make(t))
			}
		}
		for range 120 {
			who := draw(2)
			e, p := ends[who], plains[who]
			switch what := draw(10); what {
			case 0, 1:
				from := len(p.out)
				data := texts[who][from:min(most, from+draw(25))]
				if draw(12) == 0 {
					data = strings.Repeat("x", most+1-from+draw(3))
				}
				want := p.write(data)
				wantWrite(t, e, data, want)
				told["write "+want.Error()]++
			case 2:
				n := draw(15) - 1
				want, no := p.read(n)
				if got, err := e.Read(n); got != want || plain.Told(err) != no {
					t.Errorf("Read(%d) = %q, %v; want %q, %v", n, got, err, want, no)
				}
				told["read "+no.Error()]++
			case 3, 4, 5:
				b := p.make(t)
				wantMade(t, e, b)
				way = append(way, letter{1 - who, b})
			default:
				l := way[draw(len(way))]
				if what == 6 {
					l = way[len(way)-1]
				}
				if what == 8 && draw(3) == 0 {
					l.b = spoil(draw, l.b)
				}
				if what == 9 {
					var frames []api.Frame
					for range 1 + draw(3) {
						frames = append(frames, craft(draw, len(plains[l.to].made), texts[1-l.to]))
					}
					l.b = pack(t, draw(60), frames...)
				}
				want := plains[l.to].take(l.b)
				wantTake(t, ends[l.to], l.b, want)
				told["take "+want.Error()]++
			}
			for i := range ends {
				if ends[i].Ready() != plains[i].ready() || !slices.Equal(ends[i].Acked(), plains[i].acked()) {
					t.Fatalf("seed %d: Ready() = %d, Acked() = %v; want %d, %v", seed, ends[i].Ready(), ends[i].Acked(), plains[i].ready(), plains[i].acked())
				}
			}
		}
	}
	for what, least := range map[string]int{
		"write OK": 1000, "write ErrFull": 100, "read OK": 1000, "read ErrRange": 100,
		"take OK": 5000, "take ErrRange": 100, "take ErrSyntax": 100, "take ErrShape": 100, "take ErrFull": 50, "take ErrState": 100, "take ErrClash": 100, "take ErrFlow": 100,
	} {
		if told[what] < least {
			t.Errorf("%s came %d times in the rows; want more", what, told[what])
		}
	}
}

// TestE2EveryShort: no short bytes are too much for an End, and what is refused is as if it never came.
func TestE2EveryShort(t *testing.T) {
	try := func(b string) {
		e, p := fresh(t, 3), newPlain(3)
		e.Make()
		p.make(t)
		wantTake(t, e, b, p.take(b))
		if e.Ready() != p.ready() || !slices.Equal(e.Acked(), p.acked()) {
			t.Fatalf("%q: Ready() = %d, Acked() = %v", b, e.Ready(), e.Acked())
		}
		wantMade(t, e, p.make(t))
	}
	for a := range 256 {
		try(string([]byte{byte(a)}))
		for b := range 256 {
			try(string([]byte{byte(a), byte(b)}))
		}
	}
	// Of one byte of the number, 0, and few others behind it.
	few := []byte{0, 1, 2, 3, 4, 5, 6, 7, 8, 9, 20, 63, 64, 128, 191, 255}
	for _, a := range few {
		for _, b := range few {
			for _, c := range few {
				for _, d := range few {
					try("\x01\x00" + string([]byte{a, b, c, d}))
				}
				try("\x01\x00" + string([]byte{a, b, c}))
			}
			try("\x01\x00" + string([]byte{a, b}))
		}
		try("\x01\x00" + string([]byte{a}))
	}
}
