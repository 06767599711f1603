package stream_test

import (
	"math"
	"slices"
	"strings"
	"testing"

	"wanderwire/api"
	"wanderwire/plain"
	"wanderwire/stream"
)

const most = api.MaxStream

// Where no piece can begin, and how many can not be taken; some would be right if only their last bits were looked at.
var (
	noPlaces = []int{-1, -2, -most, -256, -1 << 32, math.MinInt, math.MinInt + 1, most + 1, most + 2, 256, 256 + 5, 1 << 16, 1 << 32, 1<<32 + 5, math.MaxInt - 1, math.MaxInt}
	noCounts = []int{-1, -2, -most, -256, -256 + 5, -1 << 32, math.MinInt, math.MinInt + 1}
	tooMany  = []int{most + 1, 256, 1 << 16, 1 << 32, 1<<32 + 1, 1 << 62, math.MaxInt - 1, math.MaxInt}
)

// whole: a text as long as can be, of which no two bytes are the same, 0 and 255 among them.
var whole = func() string {
	b := make([]byte, most)
	for i := range b {
		b[i] = byte(255 - 4*i)
	}
	b[most-1] = 0
	return string(b)
}()

func gaps(ends ...int) []api.Range {
	var l []api.Range
	for i := 0; i < len(ends); i += 2 {
		l = append(l, api.Range{Lo: ends[i], Hi: ends[i+1]})
	}
	return l
}

// wantIs: the ends of the gaps are told two by two.
func wantIs(t *testing.T, s *stream.Stream, ready int, ends ...int) {
	t.Helper()
	if s.Ready() != ready {
		t.Errorf("Ready() = %d; want %d", s.Ready(), ready)
	}
	if want := gaps(ends...); !slices.Equal(s.Gaps(), want) {
		t.Errorf("Gaps() = %v; want %v", s.Gaps(), want)
	}
}

func wantSame(t *testing.T, s *stream.Stream, ready int, want []api.Range) {
	t.Helper()
	if s.Ready() != ready || !slices.Equal(s.Gaps(), want) {
		t.Errorf("Ready() = %d, Gaps() = %v; want %d, %v", s.Ready(), s.Gaps(), ready, want)
	}
}

// wantPut also that what is refused changes neither Ready nor Gaps.
func wantPut(t *testing.T, s *stream.Stream, at int, data string, want api.Errno) {
	t.Helper()
	ready, missing := s.Ready(), s.Gaps()
	if err := s.Put(api.Piece{At: at, Data: data}); plain.Told(err) != want {
		t.Errorf("Put(%d, %q) = %v; want %v", at, data, err, want)
	}
	if want != api.OK {
		wantSame(t, s, ready, missing)
	}
}

// wantTake also that so many less are Ready, and that the gaps are as they were.
func wantTake(t *testing.T, s *stream.Stream, n int, want string) {
	t.Helper()
	ready, missing := s.Ready(), s.Gaps()
	got, err := s.Take(n)
	if got != want || err != nil {
		t.Errorf("Take(%d) = %q, %v; want %q", n, got, err, want)
	}
	wantSame(t, s, ready-len(want), missing)
}

// wantTakeErr also that nothing is changed.
func wantTakeErr(t *testing.T, s *stream.Stream, n int) {
	t.Helper()
	ready, missing := s.Ready(), s.Gaps()
	got, err := s.Take(n)
	if got != "" || plain.Told(err) != api.ErrRange {
		t.Errorf("Take(%d) = %q, %v; want \"\", ErrRange", n, got, err)
	}
	wantSame(t, s, ready, missing)
}

// of: a stream that these pieces of whole came to, each from a place up to, and without, another.
func of(t *testing.T, ends ...int) *stream.Stream {
	t.Helper()
	s := stream.New()
	for i := 0; i < len(ends); i += 2 {
		wantPut(t, s, ends[i], whole[ends[i]:ends[i+1]], api.OK)
	}
	return s
}

// another: the text with the byte at i another one.
func another(text string, i int) string {
	return text[:i] + string([]byte{text[i] ^ 1}) + text[i+1:]
}

func TestS1New(t *testing.T) {
	s := stream.New()
	if s == nil {
		t.Fatal("New() = nil")
	}
	wantIs(t, s, 0)
	wantTake(t, s, 0, "")
	wantTake(t, s, 1, "")
	wantTake(t, s, most, "")
	for _, n := range noCounts {
		wantTakeErr(t, s, n)
	}
	for at := range most + 1 {
		wantPut(t, s, at, "", api.OK)
		wantIs(t, s, 0)
	}
}

func TestS1NewKnowsNoOther(t *testing.T) {
	s, u := stream.New(), stream.New()
	wantPut(t, s, 0, "hello", api.OK)
	wantIs(t, u, 0)
	wantTake(t, u, 5, "")
	wantPut(t, u, 2, "other", api.OK)
	wantIs(t, u, 0, 0, 1)
	wantIs(t, s, 5)
	wantPut(t, u, 0, "an", api.OK)
	wantTake(t, u, 3, "ano")
	wantTake(t, s, 2, "he")
	wantIs(t, s, 3)
	wantIs(t, u, 4)
	wantTake(t, s, 9, "llo")
	wantTake(t, u, 9, "ther")
	wantIs(t, stream.New(), 0)
}

func TestS1Turns(t *testing.T) {
	s := stream.New()
	wantPut(t, s, 4, "efg", api.OK)
	wantIs(t, s, 0, 0, 3)
	wantPut(t, s, 0, "ab", api.OK)
	wantIs(t, s, 2, 2, 3)
	wantTake(t, s, 1, "a")
	wantTake(t, s, 5, "b")
	wantIs(t, s, 0, 2, 3)
	// Over both of its neighbours, of which one was taken.
	wantPut(t, s, 1, "bcde", api.OK)
	wantIs(t, s, 5)
	wantPut(t, s, 4, "efg", api.OK)
	wantTake(t, s, 2, "cd")
	wantPut(t, s, 9, "j", api.OK)
	wantIs(t, s, 3, 7, 8)
	wantTake(t, s, 3, "efg")
	wantTake(t, s, 1, "")
	wantPut(t, s, 5, "fghijk", api.OK)
	wantIs(t, s, 4)
	wantTake(t, s, 100, "hijk")
	wantIs(t, s, 0)
}

func TestS1PutEdges(t *testing.T) {
	s := stream.New()
	wantPut(t, s, 0, "", api.OK)
	wantPut(t, s, most, "", api.OK)
	wantPut(t, s, most, "x", api.ErrFull)
	wantPut(t, s, most, whole, api.ErrFull)
	wantPut(t, s, most-1, "xy", api.ErrFull)
	wantPut(t, s, 0, whole+"x", api.ErrFull)
	wantPut(t, s, 1, whole, api.ErrFull)
	wantIs(t, s, 0)
	wantPut(t, s, most-1, whole[most-1:], api.OK)
	wantIs(t, s, 0, 0, most-2)
	wantPut(t, s, 0, whole[:1], api.OK)
	wantIs(t, s, 1, 1, most-2)
	wantPut(t, s, 0, whole, api.OK)
	wantIs(t, s, most)
	wantPut(t, s, most, "", api.OK)
	wantPut(t, s, most, "x", api.ErrFull)
	wantTake(t, s, most, whole)
	wantIs(t, s, 0)
	wantPut(t, s, 0, whole, api.OK)
	wantIs(t, s, 0)
	wantTake(t, s, 1, "")
}

func TestS1PutAnywhere(t *testing.T) {
	for at := range most + 1 {
		s := stream.New()
		rest := whole[at:]
		wantPut(t, s, at, rest+"x", api.ErrFull)
		wantPut(t, s, at, rest+rest+"x", api.ErrFull)
		wantIs(t, s, 0)
		wantPut(t, s, at, rest, api.OK)
		switch at {
		case 0:
			wantIs(t, s, most)
		case most:
			wantIs(t, s, 0)
		default:
			wantIs(t, s, 0, 0, at-1)
		}
		wantPut(t, s, 0, whole[:at], api.OK)
		wantIs(t, s, most)
		wantTake(t, s, most, whole)
	}
}

func TestS1PutNoBytes(t *testing.T) {
	// Among what came, in a gap, and behind the last: no place comes by it.
	for _, ends := range [][]int{{}, {0, 9}, {5, 9}, {0, 3, 5, 9}, {most - 1, most}, {0, most}} {
		s := of(t, ends...)
		ready, missing := s.Ready(), s.Gaps()
		for at := range most + 1 {
			wantPut(t, s, at, "", api.OK)
			wantSame(t, s, ready, missing)
		}
		wantTake(t, s, most, whole[:ready])
		for at := range most + 1 {
			wantPut(t, s, at, "", api.OK)
			wantSame(t, s, 0, missing)
		}
	}
}

func TestS1PutWrongPlace(t *testing.T) {
	s := of(t, 0, 4, 6, 8)
	wantTake(t, s, 1, whole[:1])
	for _, bad := range noPlaces {
		for _, data := range []string{"", "x", whole[:4], whole, whole + whole} {
			wantPut(t, s, bad, data, api.ErrRange)
		}
	}
	wantTake(t, s, most, whole[1:4])
	wantPut(t, s, 4, whole[4:], api.OK)
	wantTake(t, s, most, whole[4:])
}

func TestS1PutEveryByte(t *testing.T) {
	for value := range 256 {
		b := string([]byte{byte(value)})
		for _, at := range []int{0, 1, most - 1} {
			s := stream.New()
			wantPut(t, s, at, b, api.OK)
			wantPut(t, s, at, b, api.OK)
			for other := range 256 {
				if other != value {
					wantPut(t, s, at, string([]byte{byte(other)}), api.ErrClash)
				}
			}
			wantPut(t, s, 0, strings.Repeat("x", at), api.OK)
			wantTake(t, s, most, strings.Repeat("x", at)+b)
		}
	}
}

func TestS1PutNoRunes(t *testing.T) {
	// Bytes that are no text by runes, and runes of several bytes cut in two.
	for _, text := range []string{"\xff\xfe\x80\x00", "ä€😀", "\x00\x00\x00", "\n\r\x00\x7f\x80"} {
		for cut := range len(text) + 1 {
			s := stream.New()
			wantPut(t, s, cut, text[cut:], api.OK)
			wantPut(t, s, 0, text[:cut], api.OK)
			wantIs(t, s, len(text))
			wantTake(t, s, cut, text[:cut])
			wantTake(t, s, most, text[cut:])
		}
	}
}

func TestS1PutClash(t *testing.T) {
	// Each byte of what came is asked, whatever the piece has ahead of it and behind.
	for place := 10; place < 20; place++ {
		for at := range place + 1 {
			for _, end := range []int{place + 1, 20, 25, most} {
				s := of(t, 10, 20)
				wantPut(t, s, at, another(whole, place)[at:end], api.ErrClash)
				wantPut(t, s, 0, whole, api.OK)
				wantTake(t, s, most, whole)
			}
		}
	}
}

func TestS1PutClashAtTheEnd(t *testing.T) {
	s := of(t, 10, 11)
	// All bytes but the last are new: none of them may have come by it.
	wantPut(t, s, 0, "0123456789?", api.ErrClash)
	wantIs(t, s, 0, 0, 9)
	wantTake(t, s, most, "")
	wantPut(t, s, 0, whole[:10], api.OK)
	wantTake(t, s, most, whole[:11])
	// And all but the first.
	wantPut(t, s, 10, "?ABCDEF", api.ErrClash)
	wantIs(t, s, 0)
	wantPut(t, s, 11, whole[11:], api.OK)
	wantTake(t, s, most, whole[11:])
}

func TestS1PutClashAround(t *testing.T) {
	// A wrong byte between new ones, on both sides of it.
	s := of(t, 5, 6)
	wantPut(t, s, 3, "ab?cd", api.ErrClash)
	wantIs(t, s, 0, 0, 4)
	wantPut(t, s, 3, whole[3:8], api.OK)
	wantIs(t, s, 0, 0, 2)
	// And new ones between what came, of which the last is another one.
	s = of(t, 0, 2, 4, 6, 8, 10)
	wantPut(t, s, 0, whole[:2]+"xy"+whole[4:6]+"zw"+another(whole[8:10], 1), api.ErrClash)
	wantIs(t, s, 2, 2, 3, 6, 7)
	wantPut(t, s, 2, whole[2:4], api.OK)
	wantPut(t, s, 6, whole[6:8], api.OK)
	wantTake(t, s, most, whole[:10])
}

func TestS1PutClashWithTaken(t *testing.T) {
	s := of(t, 0, 10)
	wantTake(t, s, 6, whole[:6])
	for place := range 10 {
		wantPut(t, s, place, another(whole, place)[place:place+1], api.ErrClash)
		wantPut(t, s, 0, another(whole, place)[:12], api.ErrClash)
		wantPut(t, s, 0, another(whole, place), api.ErrClash)
	}
	wantIs(t, s, 4)
	wantTake(t, s, most, whole[6:10])
	for place := range 10 {
		wantPut(t, s, place, another(whole, place)[place:], api.ErrClash)
	}
	wantPut(t, s, 0, whole[:10], api.OK)
	wantIs(t, s, 0)
	wantPut(t, s, 9, whole[9:12], api.OK)
	wantTake(t, s, most, whole[10:12])
}

func TestS1Order(t *testing.T) {
	s := of(t, 0, most)
	// Beyond MaxStream, and other bytes too.
	for at := range most + 1 {
		wantPut(t, s, at, strings.Repeat("\x01", most-at+1), api.ErrFull)
	}
	wantPut(t, s, 3, another(whole[3:], 0)+"x", api.ErrFull)
	wantPut(t, s, 3, another(whole[3:], 0), api.ErrClash)
	// No place, and beyond MaxStream, and, if it were cut there, other bytes.
	for _, bad := range noPlaces {
		wantPut(t, s, bad, strings.Repeat("\x01", 2*most), api.ErrRange)
	}
	wantPut(t, s, -1, "\x01"+whole, api.ErrRange)
	wantPut(t, s, most+1, "x", api.ErrRange)
	wantTake(t, s, most, whole)
}

func TestS1Take(t *testing.T) {
	for ready := range most + 1 {
		for n := range ready + 3 {
			s := of(t, 0, ready)
			wantIs(t, s, ready)
			wantTake(t, s, n, whole[:min(n, ready)])
			wantTake(t, s, 0, "")
			wantTake(t, s, most, whole[min(n, ready):ready])
			wantTake(t, s, most, "")
		}
	}
}

func TestS1TakeOneByOne(t *testing.T) {
	s := of(t, 0, most)
	for i := range most {
		wantIs(t, s, most-i)
		wantTake(t, s, 0, "")
		wantTake(t, s, 1, whole[i:i+1])
	}
	wantTake(t, s, 1, "")
	wantIs(t, s, 0)
}

func TestS1TakeMany(t *testing.T) {
	for _, n := range tooMany {
		s := of(t, 0, 7, 9, 12)
		wantTake(t, s, n, whole[:7])
		wantTake(t, s, n, "")
		wantPut(t, s, 7, whole[7:9], api.OK)
		wantTake(t, s, n, whole[7:12])
		wantPut(t, s, 12, whole[12:], api.OK)
		wantTake(t, s, n, whole[12:])
		wantTake(t, s, n, "")
	}
}

func TestS1TakeNotOverAGap(t *testing.T) {
	s := of(t, 1, 4)
	wantTake(t, s, 3, "")
	wantPut(t, s, 0, whole[:1], api.OK)
	wantIs(t, s, 4)
	wantTake(t, s, 2, whole[:2])
	wantPut(t, s, 5, whole[5:8], api.OK)
	wantIs(t, s, 2, 4, 4)
	wantTake(t, s, 3, whole[2:4])
	wantTake(t, s, 3, "")
	wantPut(t, s, 4, whole[4:5], api.OK)
	wantTake(t, s, 3, whole[4:7])
	wantTake(t, s, 3, whole[7:8])
}

func TestS1TakeWrong(t *testing.T) {
	s := of(t, 0, 7, 9, 12)
	for _, n := range noCounts {
		wantTakeErr(t, s, n)
	}
	wantTake(t, s, 3, whole[:3])
	for _, n := range noCounts {
		wantTakeErr(t, s, n)
	}
	wantTake(t, s, 9, whole[3:7])
	for _, n := range noCounts {
		wantTakeErr(t, s, n)
	}
	wantPut(t, s, 7, whole[7:9], api.OK)
	wantTake(t, s, 9, whole[7:12])
}

func TestS1TakeIsKept(t *testing.T) {
	// What was given stays as it was, whatever comes later.
	s := of(t, 0, 3)
	first, _ := s.Take(2)
	second, _ := s.Take(9)
	wantPut(t, s, 3, whole[3:], api.OK)
	third, _ := s.Take(9)
	if first != whole[:2] || second != whole[2:3] || third != whole[3:12] {
		t.Errorf("Take = %q, %q, %q", first, second, third)
	}
}

func TestS1Gaps(t *testing.T) {
	for _, c := range []struct{ came, missing []int }{
		{nil, nil},
		{[]int{0, 1}, nil},
		{[]int{1, 2}, []int{0, 0}},
		{[]int{2, 3}, []int{0, 1}},
		{[]int{most - 1, most}, []int{0, most - 2}},
		{[]int{0, 1, most - 1, most}, []int{1, most - 2}},
		{[]int{0, most - 1}, nil},
		{[]int{0, most}, nil},
		{[]int{1, most}, []int{0, 0}},
		{[]int{0, 5, 6, 9}, []int{5, 5}},
		// Two gaps side by side of one place that came.
		{[]int{0, 3, 5, 6, 8, 9}, []int{3, 4, 6, 7}},
		{[]int{1, 2, 3, 4}, []int{0, 0, 2, 2}},
		{[]int{8, 9, 5, 6, 0, 3}, []int{3, 4, 6, 7}},
		{[]int{most - 2, most - 1, most - 4, most - 3}, []int{0, most - 5, most - 3, most - 3}},
		// Pieces that touch, and that lie over each other.
		{[]int{4, 6, 6, 8}, []int{0, 3}},
		{[]int{4, 9, 7, 12, 20, 22, 5, 6}, []int{0, 3, 12, 19}},
		{[]int{4, 6, 10, 12, 5, 11}, []int{0, 3}},
	} {
		s := of(t, c.came...)
		missing := gaps(c.missing...)
		wantSame(t, s, s.Ready(), missing)
		wantSame(t, s, s.Ready(), missing)
	}
}

func TestS1GapsMost(t *testing.T) {
	// Every other place: more gaps than ranges elsewhere may be, from the highest place on down.
	s := stream.New()
	var missing []int
	for at := most - 1; at > 0; at -= 2 {
		wantPut(t, s, at, whole[at:at+1], api.OK)
	}
	for at := 0; at < most; at += 2 {
		missing = append(missing, at, at)
	}
	wantIs(t, s, 0, missing...)
	for at := 0; at < most; at += 2 {
		wantPut(t, s, at, whole[at:at+1], api.OK)
		wantIs(t, s, at+2, missing[at+2:]...)
	}
	wantTake(t, s, most, whole)
}

func TestS1GapsAreTheCallers(t *testing.T) {
	s := of(t, 1, 2, 4, 5, 8, 9)
	first := s.Gaps()
	second := s.Gaps()
	for i := range first {
		first[i] = api.Range{Lo: -7, Hi: 99}
	}
	for i, r := range first[len(first):cap(first)] {
		if r != (api.Range{}) {
			t.Errorf("behind the gaps, at %d: %v", i, r)
		}
		first[len(first):cap(first)][i] = api.Range{Lo: -7, Hi: 99}
	}
	if want := gaps(0, 0, 2, 3, 5, 7); !slices.Equal(second, want) {
		t.Errorf("the other Gaps = %v; want %v", second, want)
	}
	wantIs(t, s, 0, 0, 0, 2, 3, 5, 7)
	wantPut(t, s, 0, whole[:1], api.OK)
	wantIs(t, s, 2, 2, 3, 5, 7)
	if want := gaps(0, 0, 2, 3, 5, 7); !slices.Equal(second, want) {
		t.Errorf("the other Gaps = %v after a Put; want %v", second, want)
	}
	wantPut(t, s, 0, whole[:9], api.OK)
	wantTake(t, s, most, whole[:9])
}

// plainStream: the chapter's words, by which byte, if any, came at which place.
type plainStream struct {
	at    map[int]byte
	taken int
}

func (p *plainStream) put(at int, data string) api.Errno {
	if at < 0 || at > most {
		return api.ErrRange
	}
	if at+len(data) > most {
		return api.ErrFull
	}
	for i := range len(data) {
		if b, there := p.at[at+i]; there && b != data[i] {
			return api.ErrClash
		}
	}
	for i := range len(data) {
		p.at[at+i] = data[i]
	}
	return api.OK
}

func (p *plainStream) ready() string {
	var out []byte
	for {
		b, there := p.at[p.taken+len(out)]
		if !there {
			return string(out)
		}
		out = append(out, b)
	}
}

func (p *plainStream) gaps() []api.Range {
	last := -1
	for place := range p.at {
		last = max(last, place)
	}
	var out []api.Range
	for place := range last {
		_, there := p.at[place]
		_, thereAhead := p.at[place-1]
		if there {
			continue
		}
		if place == 0 || thereAhead {
			out = append(out, api.Range{Lo: place, Hi: place})
		}
		out[len(out)-1].Hi = place
	}
	return out
}

func TestS1InARow(t *testing.T) {
	told := map[string]int{}
	for seed := range 400 {
		turn := seed*7919 + 1
		draw := func(n int) int {
			turn = (turn*1103515245 + 12345) & (1<<31 - 1)
			return turn >> 12 % n
		}
		// Of few letters, so that a wrong piece may well be right by chance.
		letters := make([]byte, most+8)
		for i := range letters {
			letters[i] = "\x00a\xff"[draw(3)]
		}
		s, p := stream.New(), &plainStream{at: map[int]byte{}}
		all := ""
		for range 60 {
			if draw(3) == 0 {
				n := draw(12) - 1
				if n < 0 {
					wantTakeErr(t, s, n)
					told["take ErrRange"]++
					continue
				}
				want := p.ready()
				want = want[:min(n, len(want))]
				p.taken += len(want)
				wantTake(t, s, n, want)
				all += want
				if want != "" {
					told["take OK"]++
				}
			} else {
				at := draw(most+3) - 1
				from := min(max(at, 0), most)
				data := string(letters[from : from+draw(min(12, most+8-from))])
				if len(data) > 0 && draw(3) == 0 {
					data = another(data, draw(len(data)))
				}
				want := p.put(at, data)
				wantPut(t, s, at, data, want)
				told["put "+want.Error()]++
			}
			wantSame(t, s, len(p.ready()), p.gaps())
		}
		for i := range len(all) {
			if all[i] != p.at[i] {
				t.Errorf("seed %d: what was taken, at %d: %d; want %d", seed, i, all[i], p.at[i])
			}
		}
		wantTake(t, s, most, p.ready())
	}
	for _, what := range []string{"take OK", "take ErrRange", "put OK", "put ErrRange", "put ErrFull", "put ErrClash"} {
		if told[what] < 300 {
			t.Errorf("%s came %d times in the rows; want more", what, told[what])
		}
	}
}

// In whatever order the pieces of a text come, in order they are taken.
func TestS1AnyOrder(t *testing.T) {
	for seed := range 200 {
		turn := seed*104729 + 1
		draw := func(n int) int {
			turn = (turn*1103515245 + 12345) & (1<<31 - 1)
			return turn >> 12 % n
		}
		s := stream.New()
		all := ""
		for tries := 0; len(all) < most; tries++ {
			if tries > 5000 {
				t.Fatalf("seed %d: not all came: %v", seed, s.Gaps())
			}
			at := draw(most)
			wantPut(t, s, at, whole[at:min(most, at+draw(api.MaxPiece+1))], api.OK)
			n := draw(5)
			want := whole[len(all) : len(all)+min(n, s.Ready())]
			wantTake(t, s, n, want)
			all += want
		}
		if all != whole || len(s.Gaps()) > 0 || s.Ready() != 0 {
			t.Errorf("seed %d: %q, then Ready %d, Gaps %v", seed, all, s.Ready(), s.Gaps())
		}
	}
}
