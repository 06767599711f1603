package frame_test

import (
	"math"
	"slices"
	"strings"
	"testing"

	"wanderwire/api"
	"wanderwire/frame"
	"wanderwire/plain"
)

// The numbers as the document has them, so that a change of one of them shows.
const (
	top       = 1<<30 - 1
	piece     = 20
	maxRanges = 12
)

// The Kinds as they are written.
const (
	ping   = 1
	acked  = 2
	stream = 3
	credit = 4
	probe  = 5
	answer = 6
	issue  = 7
	retire = 8
)

// topBytes are those of MaxNumber.
const topBytes = "\xbf\xff\xff\xff"

// counts of the Kinds' numbers, but for an Ack's.
var counts = map[int]int{ping: 0, stream: 1, credit: 1, probe: 1, answer: 1, issue: 2, retire: 1}

// outside: what is no number; some would be right if only their last bits were looked at.
var outside = []int{-1, -2, -top, math.MinInt, math.MinInt + 1, top + 1, top + 2, 1 << 32, 1<<32 + 5, math.MaxInt - 1, math.MaxInt}

// noKinds: what is no Kind.
var noKinds = []int{0, 9, 10, -1, -8, 16 + 1, 64 + 3, 256, 256 + 1, 256 + 3, 256 + 8, 1<<32 + 3, 1<<62 + 1, math.MinInt, math.MinInt + 1, math.MaxInt - 1, math.MaxInt}

// badNumbers are bytes that chapter 1 refuses, whatever is behind them: for the two bits, or for a shorter way.
var badNumbers = []string{
	"\xff", "\xc0", "\xc0\x00\x00\x00", "\xff\xff\xff\xff", "\xc0\x00\x00\x00\x00\x00\x00\x00",
	"\x40\x00", "\x40\x01", "\x40\x3f", "\x80\x00\x00\x00", "\x80\x00\x00\x01", "\x80\x00\x3f\xff",
}

// behind: what may lie behind a frame's bytes.
var behind = []string{"", "\x00", "\x01", "\x03", "\xff", "\x40", "\x80\x00", "\xc0\xff", "\x02\x08\x01", "more of it", strings.Repeat("\x00", 300)}

// say has a frame without bytes.
func say(kind int, nums ...int) api.Frame { return api.Frame{Kind: kind, Nums: nums} }

// saying has one with bytes.
func saying(data string, kind int, nums ...int) api.Frame {
	return api.Frame{Kind: kind, Nums: nums, Data: data}
}

// spread has the numbers of so many ranges of two numbers each, 10 apart, the lowest from lo on.
func spread(many, lo int) []int {
	var nums []int
	for i := many - 1; i >= 0; i-- {
		nums = append(nums, lo+10*i+1, lo+10*i)
	}
	return nums
}

// spreadBytes are those of spread with lo 0, for as many ranges as are told and as many as there are.
func spreadBytes(told, many int) string {
	return "\x02" + modelPut(10*(many-1)+1) + modelPut(told-1) + "\x01" + strings.Repeat("\x07\x01", many-1)
}

func same(a, b api.Frame) bool {
	return a.Kind == b.Kind && slices.Equal(a.Nums, b.Nums) && a.Data == b.Data
}

// guarded has the frame with marks behind its numbers, and the whole memory of these.
func guarded(f api.Frame) (api.Frame, []int) {
	room := append(slices.Clone(f.Nums), -77, 77, -78, 78)
	f.Nums = room[:len(f.Nums)]
	return f, room
}

// scribble over a list, and over what lies behind it, so that shared memory shows.
func scribble(l []int) {
	l = l[:cap(l)]
	for i := range l {
		l[i] = -99
	}
}

func wantCheck(t *testing.T, f api.Frame, want api.Errno) {
	t.Helper()
	f, room := guarded(f)
	before := slices.Clone(room)
	if err := frame.Check(f); plain.Told(err) != want {
		t.Errorf("Check(%v) = %v; want %v", f, err, want)
	}
	if !slices.Equal(room, before) {
		t.Errorf("Check(%v) wrote into it", f)
	}
}

func wantPrint(t *testing.T, f api.Frame, want string, wantErr api.Errno) {
	t.Helper()
	f, room := guarded(f)
	before := slices.Clone(room)
	got, err := frame.Print(f)
	if got != want || plain.Told(err) != wantErr {
		t.Errorf("Print(%v) = %q, %v; want %q, %v", f, got, err, want, wantErr)
	}
	if !slices.Equal(room, before) {
		t.Errorf("Print(%v) wrote into it", f)
	}
}

// wantRight: a frame of which nothing is wrong, and its bytes.
func wantRight(t *testing.T, f api.Frame, b string) {
	t.Helper()
	wantCheck(t, f, api.OK)
	wantPrint(t, f, b, api.OK)
}

// wantWrong: what Check tells Print tells as well.
func wantWrong(t *testing.T, f api.Frame, want api.Errno) {
	t.Helper()
	wantCheck(t, f, want)
	wantPrint(t, f, "", want)
}

func wantParse(t *testing.T, b string, want api.Frame, wantLong int, wantErr api.Errno) {
	t.Helper()
	got, long, err := frame.Parse(b)
	if !same(got, want) || long != wantLong || plain.Told(err) != wantErr {
		t.Errorf("Parse(%q) = %v, %d, %v; want %v, %d, %v", b, got, long, err, want, wantLong, wantErr)
	}
	// Were the answer kept inside, the scribbles would come out the second time.
	scribble(got.Nums)
	got, long, err = frame.Parse(b)
	if !same(got, want) || long != wantLong || plain.Told(err) != wantErr {
		t.Errorf("Parse(%q) again = %v, %d, %v; want %v, %d, %v", b, got, long, err, want, wantLong, wantErr)
	}
}

// wantRefused: these bytes begin with no frame.
func wantRefused(t *testing.T, b string) {
	t.Helper()
	wantParse(t, b, api.Frame{}, 0, api.ErrSyntax)
}

// told: frames, and the bytes that they have.
var told = []struct {
	f api.Frame
	b string
}{
	// One of each Kind.
	{say(ping), "\x01"},
	{say(acked, 5, 3), "\x02\x05\x00\x02"},
	{saying("hello", stream, 7), "\x03\x07\x05hello"},
	{say(credit, 60), "\x04\x3c"},
	{say(probe, 33), "\x05\x21"},
	{say(answer, 33), "\x06\x21"},
	{say(issue, 3, 40), "\x07\x03\x28"},
	{say(retire, 3), "\x08\x03"},
	// Numbers of one, two and four bytes: the first and the last of each length.
	{say(credit, 0), "\x04\x00"},
	{say(credit, 63), "\x04\x3f"},
	{say(credit, 64), "\x04\x40\x40"},
	{say(credit, 16383), "\x04\x7f\xff"},
	{say(credit, 16384), "\x04\x80\x00\x40\x00"},
	{say(credit, top), "\x04" + topBytes},
	{say(probe, 0), "\x05\x00"},
	{say(probe, 1052945227), "\x05\xbe\xc2\xab\x4b"},
	{say(probe, top), "\x05" + topBytes},
	{say(answer, 0), "\x06\x00"},
	{say(answer, 256), "\x06\x41\x00"},
	{say(answer, top), "\x06" + topBytes},
	{say(retire, 0), "\x08\x00"},
	{say(retire, 79), "\x08\x40\x4f"},
	{say(retire, top), "\x08" + topBytes},
	{say(issue, 0, 0), "\x07\x00\x00"},
	{say(issue, top, 0), "\x07" + topBytes + "\x00"},
	{say(issue, 0, top), "\x07\x00" + topBytes},
	{say(issue, top, top), "\x07" + topBytes + topBytes},
	{say(issue, 64, 63), "\x07\x40\x40\x3f"},
	{say(issue, 16384, 64), "\x07\x80\x00\x40\x00\x40\x40"},
	{say(issue, 64, 16384), "\x07\x40\x40\x80\x00\x40\x00"},
	// Streams of no bytes, of one, and of as many as may be; of bytes that mean something elsewhere.
	{say(stream, 0), "\x03\x00\x00"},
	{say(stream, 64), "\x03\x40\x40\x00"},
	{say(stream, top), "\x03" + topBytes + "\x00"},
	{saying("a", stream, 0), "\x03\x00\x01a"},
	{saying("\x00", stream, 9), "\x03\x09\x01\x00"},
	{saying("\xff\x00\x80", stream, 16384), "\x03\x80\x00\x40\x00\x03\xff\x00\x80"},
	{saying("\x03\x00\x01a", stream, 16383), "\x03\x7f\xff\x04\x03\x00\x01a"},
	{saying(strings.Repeat("x", piece-1), stream, 1), "\x03\x01\x13" + strings.Repeat("x", piece-1)},
	{saying(strings.Repeat("x", piece), stream, 1), "\x03\x01\x14" + strings.Repeat("x", piece)},
	{saying("abcdefghijklmnopqrst", stream, top), "\x03" + topBytes + "\x14abcdefghijklmnopqrst"},
	// Acks: Hi and Lo each, and chapter 4's bytes.
	{say(acked, 0, 0), "\x02\x00\x00\x00"},
	{say(acked, top, top), "\x02" + topBytes + "\x00\x00"},
	{say(acked, top, 0), "\x02" + topBytes + "\x00" + topBytes},
	{say(acked, 64, 0), "\x02\x40\x40\x00\x40\x40"},
	{say(acked, 8, 7, 5, 3), "\x02\x08\x01\x01\x00\x02"},
	{say(acked, 2, 2, 0, 0), "\x02\x02\x01\x00\x00\x00"},
	{say(acked, 26, 24, 21, 21, 18, 18), "\x02\x1a\x02\x02\x01\x00\x01\x00"},
	{say(acked, top, top, 0, 0), "\x02" + topBytes + "\x01\x00\xbf\xff\xff\xfd\x00"},
	{say(acked, top, top, top-2, 0), "\x02" + topBytes + "\x01\x00\x00\xbf\xff\xff\xfd"},
	{say(acked, spread(maxRanges-1, 0)...), spreadBytes(maxRanges-1, maxRanges-1)},
	{say(acked, spread(maxRanges, 0)...), spreadBytes(maxRanges, maxRanges)},
}

func TestF1Check(t *testing.T) {
	for _, c := range told {
		wantCheck(t, c.f, api.OK)
	}
}

func TestF1Print(t *testing.T) {
	for _, c := range told {
		wantPrint(t, c.f, c.b, api.OK)
	}
}

func TestF1Parse(t *testing.T) {
	for _, c := range told {
		for _, more := range behind {
			wantParse(t, c.b+more, c.f, len(c.b), api.OK)
		}
		for _, next := range told {
			wantParse(t, c.b+next.b, c.f, len(c.b), api.OK)
		}
	}
}

func TestF1KindsAreAsInAPI(t *testing.T) {
	got := []int{api.Ping, api.Ack, api.Stream, api.Credit, api.Probe, api.Answer, api.Issue, api.Retire}
	if !slices.Equal(got, []int{ping, acked, stream, credit, probe, answer, issue, retire}) {
		t.Errorf("the Kinds are %v", got)
	}
}

func TestF1NoKind(t *testing.T) {
	for _, kind := range noKinds {
		for _, f := range []api.Frame{say(kind), say(kind, 1), say(kind, 5, 3), saying("a", kind), saying("a", kind, 1)} {
			wantWrong(t, f, api.ErrRange)
		}
	}
	for kind := range 256 {
		if 1 <= kind && kind <= 8 {
			continue
		}
		for _, more := range []string{"", "\x00", "\x01", "\x05\x00\x02", "\x07\x05hello", "\x03\x28"} {
			wantRefused(t, string([]byte{byte(kind)})+more)
		}
	}
	wantRefused(t, "")
}

func TestF1HowManyNumbers(t *testing.T) {
	for kind, many := range counts {
		for count := range 30 {
			want := api.ErrShape
			if count == many {
				want = api.OK
			}
			wantCheck(t, say(kind, make([]int, count)...), want)
			if want != api.OK {
				wantPrint(t, say(kind, make([]int, count)...), "", want)
			}
		}
		wantWrong(t, say(kind, make([]int, 256+many)...), api.ErrShape)
	}
	wantWrong(t, say(stream), api.ErrShape)
	wantWrong(t, say(ping, 0), api.ErrShape)
	wantWrong(t, say(issue, 3), api.ErrShape)
	wantWrong(t, say(issue, 3, 40, 5), api.ErrShape)
	wantWrong(t, saying("a", stream), api.ErrShape)
	wantWrong(t, saying("a", stream, 1, 1), api.ErrShape)
}

func TestF1HowManyNumbersOfAnAck(t *testing.T) {
	// These would be as many ranges as may be, and some beyond, cut off everywhere.
	all := spread(maxRanges+3, 0)
	for count := range len(all) + 1 {
		want := api.ErrShape
		if count > 0 && count%2 == 0 && count <= 2*maxRanges {
			want = api.OK
		}
		wantCheck(t, say(acked, all[:count]...), want)
		if want != api.OK {
			wantPrint(t, say(acked, all[:count]...), "", want)
		}
	}
	wantWrong(t, say(acked), api.ErrShape)
	wantWrong(t, say(acked, 5), api.ErrShape)
	wantWrong(t, say(acked, 5, 3, 1), api.ErrShape)
	wantWrong(t, say(acked, spread(256, 0)...), api.ErrShape)
	wantWrong(t, say(acked, spread(256+maxRanges, 0)...), api.ErrShape)
}

func TestF1BytesInAnother(t *testing.T) {
	for _, c := range told {
		if c.f.Kind == stream {
			continue
		}
		for _, data := range []string{"a", "\x00", strings.Repeat("x", piece), strings.Repeat("x", piece+1)} {
			f := c.f
			f.Data = data
			wantWrong(t, f, api.ErrShape)
		}
	}
}

func TestF1NoNumber(t *testing.T) {
	for _, n := range outside {
		for _, kind := range []int{credit, probe, answer, retire, stream} {
			wantWrong(t, say(kind, n), api.ErrRange)
		}
		wantWrong(t, saying("hello", stream, n), api.ErrRange)
		wantWrong(t, say(issue, n, 3), api.ErrRange)
		wantWrong(t, say(issue, 3, n), api.ErrRange)
		wantWrong(t, say(issue, n, n), api.ErrRange)
		for i := range 2 * maxRanges {
			nums := spread(maxRanges, 0)
			nums[i] = n
			wantWrong(t, say(acked, nums...), api.ErrRange)
		}
		wantWrong(t, say(acked, n, n), api.ErrRange)
		wantWrong(t, say(acked, n, 3), api.ErrRange)
		wantWrong(t, say(acked, 5, n), api.ErrRange)
	}
}

func TestF1TooLongAPiece(t *testing.T) {
	for _, long := range []int{piece + 1, piece + 2, 60, 63, 64, 256, 256 + piece, 16384, 100_000} {
		wantWrong(t, saying(strings.Repeat("x", long), stream, 0), api.ErrFull)
		wantWrong(t, saying(strings.Repeat("x", long), stream, top), api.ErrFull)
	}
	for long := range piece + 1 {
		data := strings.Repeat("y", long)
		wantRight(t, saying(data, stream, 2), "\x03\x02"+string([]byte{byte(long)})+data)
	}
}

func TestF1NoRanges(t *testing.T) {
	for _, nums := range [][]int{
		// Lo above Hi.
		{4, 5}, {0, top}, {0, 1}, {21, 20, 4, 5}, {4, 5, 2, 1},
		// Not so far below the one ahead: none is missing between, they meet, they are the same, one is in the other.
		{8, 7, 6, 4}, {8, 7, 7, 4}, {8, 7, 8, 7}, {8, 4, 6, 5}, {8, 7, 9, 4}, {1, 1, 0, 0}, {top, top, top - 1, 0},
		// From below.
		{5, 4, 8, 7}, {21, 20, 5, 4, 11, 10}, {0, 0, top, top},
		// Only the last one is none.
		slices.Concat(spread(maxRanges-1, 100), []int{99, 99}),
		slices.Concat(spread(maxRanges-1, 100), []int{3, 4}),
	} {
		wantWrong(t, say(acked, nums...), api.ErrShape)
	}
	// One missing is enough, and Hi may be Lo.
	wantRight(t, say(acked, 8, 7, 5, 4), "\x02\x08\x01\x01\x00\x01")
	wantRight(t, say(acked, 4, 4), "\x02\x04\x00\x00")
	// Hi stands first.
	wantRight(t, say(acked, 5, 4), "\x02\x05\x00\x01")
}

func TestF1TellsTheFirst(t *testing.T) {
	long := strings.Repeat("x", piece+1)
	// Kind, ahead of all.
	wantWrong(t, saying(long, 0, -1, -1, -1), api.ErrRange)
	wantWrong(t, saying(long, 9), api.ErrRange)
	// How many, ahead of what they are; ErrShape and not ErrRange or ErrFull.
	wantWrong(t, say(ping, -1), api.ErrShape)
	wantWrong(t, say(credit, -1, top+1), api.ErrShape)
	wantWrong(t, say(issue, -1), api.ErrShape)
	wantWrong(t, say(acked, -1), api.ErrShape)
	wantWrong(t, say(acked, 5, 3, -1), api.ErrShape)
	wantWrong(t, say(acked, slices.Repeat([]int{-1}, 2*maxRanges+2)...), api.ErrShape)
	wantWrong(t, saying(long, stream), api.ErrShape)
	wantWrong(t, saying(long, stream, 1, 2), api.ErrShape)
	wantWrong(t, saying(long, stream, -1, -2), api.ErrShape)
	// Bytes in another, ahead of numbers, and of how many bytes.
	wantWrong(t, saying("a", credit, -1), api.ErrShape)
	wantWrong(t, saying(long, ping), api.ErrShape)
	wantWrong(t, saying(long, issue, -1, top+1), api.ErrShape)
	wantWrong(t, saying("a", acked, -1, 3), api.ErrShape)
	// Numbers, ahead of how many bytes, and of ranges.
	wantWrong(t, saying(long, stream, -1), api.ErrRange)
	wantWrong(t, saying(long, stream, top+1), api.ErrRange)
	wantWrong(t, say(acked, -1, 3), api.ErrRange)
	wantWrong(t, say(acked, 3, top+1), api.ErrRange)
	wantWrong(t, say(acked, 4, 5, 3, -1), api.ErrRange)
	wantWrong(t, say(acked, 8, 7, 6, -1), api.ErrRange)
}

func TestF1ParseEndsTooEarly(t *testing.T) {
	for _, c := range told {
		for i := range len(c.b) {
			wantRefused(t, c.b[:i])
		}
	}
}

func TestF1ParseWrongNumbers(t *testing.T) {
	for _, l := range [][]string{
		{"\x02", "\x08", "\x00", "\x01"},
		{"\x02", "\x08", "\x01", "\x01", "\x00", "\x02"},
		{"\x02", "\x40\x50", "\x02", "\x01", "\x07", "\x01", "\x07", "\x01"},
		{"\x03", "\x07", "\x00"},
		{"\x03", "\x07", "\x05", "hello"},
		{"\x04", "\x05"}, {"\x05", "\x05"}, {"\x06", "\x05"}, {"\x08", "\x05"},
		{"\x07", "\x03", "\x28"},
	} {
		for i := 1; i < len(l); i++ {
			if l[i] == "hello" {
				continue
			}
			for _, bad := range badNumbers {
				b := strings.Join(l[:i], "") + bad
				wantRefused(t, b)
				wantRefused(t, b+strings.Join(l[i+1:], ""))
				wantRefused(t, b+strings.Repeat("\x00", 100))
			}
			for _, few := range []string{"\x40", "\x7f", "\x80", "\x80\x00", "\x80\x00\x40", "\xbf\xff\xff"} {
				wantRefused(t, strings.Join(l[:i], "")+few)
			}
		}
	}
}

func TestF1ParseHowLongAPiece(t *testing.T) {
	many := strings.Repeat("z", 70_000)
	for long := range piece + 1 {
		b := "\x03\x05" + string([]byte{byte(long)}) + many[:long]
		f := saying(many[:long], stream, 5)
		wantParse(t, b, f, 3+long, api.OK)
		wantParse(t, b+many, f, 3+long, api.OK)
		// One byte fewer than are told.
		wantRefused(t, b[:len(b)-1])
	}
	for _, long := range []int{piece + 1, piece + 2, 60, 63, 64, 256, 256 + piece, 16383, 16384, 65536 + 5, top} {
		wantRefused(t, "\x03\x05"+modelPut(long))
		wantRefused(t, "\x03\x05"+modelPut(long)+many[:20])
		wantRefused(t, "\x03\x05"+modelPut(long)+many[:min(long, len(many))])
		wantRefused(t, "\x03\x05"+modelPut(long)+many)
	}
}

func TestF1ParseHowManyRanges(t *testing.T) {
	for many := 1; many <= maxRanges; many++ {
		b := spreadBytes(many, many)
		wantParse(t, b, say(acked, spread(many, 0)...), len(b), api.OK)
		// More are told than there are.
		wantRefused(t, spreadBytes(many+1, many))
		// Fewer are told: the others are bytes behind it.
		if many > 1 {
			long := len(b) - 2
			wantParse(t, spreadBytes(many-1, many), say(acked, spread(many, 0)[:2*many-2]...), long, api.OK)
		}
	}
	// Each range is there, but there are too many.
	for _, many := range []int{maxRanges + 1, maxRanges + 2, 64, 65, 100, 256 + 3} {
		wantRefused(t, spreadBytes(many, many))
		wantRefused(t, spreadBytes(many, many)+strings.Repeat("\x00", 600))
	}
	for _, many := range []int{maxRanges, maxRanges + 1, 63, 64, 256, 16383, 16384, top} {
		wantRefused(t, "\x02"+topBytes+modelPut(many)+"\x00")
		wantRefused(t, "\x02"+topBytes+modelPut(many)+strings.Repeat("\x00", 1+2*min(many, 40_000)))
		wantRefused(t, "\x02"+topBytes+modelPut(many))
	}
	// As long as an Ack can be.
	full := "\x02" + topBytes + "\x0b\x80\x00\x40\x00" + strings.Repeat("\x80\x00\x40\x00", 22)
	f, long, err := frame.Parse(full + "\x01\x02")
	if err != nil || long != len(full) || len(f.Nums) != 24 || f.Nums[1] != top-16384 || f.Nums[2] != top-2*16384-2 {
		t.Errorf("Parse of the longest = %v, %d, %v", f, long, err)
	}
}

func TestF1ParseBelowZero(t *testing.T) {
	for _, b := range []string{
		// Lo of the first.
		"\x02\x00\x00\x01", "\x02\x08\x00\x09", "\x02\x00\x00" + topBytes, "\x02\x08\x01\x09\x00\x00",
		// Hi of the second, just and by much.
		"\x02\x00\x01\x00\x00\x00", "\x02\x01\x01\x00\x00\x00", "\x02\x08\x01\x01\x06\x00", "\x02\x08\x01\x01" + topBytes + "\x00",
		// Lo of the second.
		"\x02\x08\x01\x01\x00\x06", "\x02\x08\x01\x01\x05\x01", "\x02\x02\x01\x00\x00\x01", "\x02\x08\x01\x01\x00" + topBytes,
		// Of a third, and of all of them.
		"\x02\x08\x02\x01\x00\x02\x02\x00", "\x02\x08\x02\x01\x00\x02\x00\x02",
		"\x02" + topBytes + "\x0b" + strings.Repeat(topBytes, 1+2*(maxRanges-1)),
	} {
		wantRefused(t, b)
		for _, more := range behind {
			wantRefused(t, b+more)
		}
	}
	// Just not below.
	wantParse(t, "\x02\x08\x00\x08\x09", say(acked, 8, 0), 4, api.OK)
	wantParse(t, "\x02\x08\x01\x01\x05\x00\x01", say(acked, 8, 7, 0, 0), 6, api.OK)
	wantParse(t, "\x02\x08\x01\x01\x00\x05\x01", say(acked, 8, 7, 5, 0), 6, api.OK)
}

func TestF1EmptyAndNilAreTheSame(t *testing.T) {
	for _, nums := range [][]int{nil, {}, make([]int, 0, 5), []int{1, 2, 3}[:0]} {
		wantRight(t, api.Frame{Kind: ping, Nums: nums}, "\x01")
		for kind := acked; kind <= retire; kind++ {
			wantWrong(t, api.Frame{Kind: kind, Nums: nums}, api.ErrShape)
		}
		if b, err := frame.Print(api.Frame{Kind: ping, Nums: nums}); b != "\x01" || err != nil {
			t.Errorf("Print of a Ping = %q, %v", b, err)
		}
		if err := frame.Check(api.Frame{Kind: stream, Nums: nums}); plain.Told(err) != api.ErrShape {
			t.Errorf("Check of a Stream = %v", err)
		}
	}
}

func TestF1NothingIsKept(t *testing.T) {
	for _, c := range told {
		f, room := guarded(c.f)
		b, err := frame.Print(f)
		first, _, _ := frame.Parse(b)
		second, _, _ := frame.Parse(b)
		scribble(room)
		scribble(first.Nums)
		if b != c.b || err != nil || !same(second, c.f) {
			t.Errorf("what came of %v changed: %q, %v, %v", c.f, b, second, err)
		}
		wantRight(t, c.f, c.b)
		wantParse(t, c.b, c.f, len(c.b), api.OK)
	}
}

// modelPut, modelGet: chapter 1, written out.
func modelPut(n int) string {
	switch {
	case n < 64:
		return string([]byte{byte(n)})
	case n < 16384:
		return string([]byte{0x40 | byte(n>>8), byte(n)})
	}
	return string([]byte{0x80 | byte(n>>24), byte(n >> 16), byte(n >> 8), byte(n)})
}

func modelGet(b string) (n, long int, ok bool) {
	for _, long := range []int{1, 2, 4} {
		if len(b) < long {
			break
		}
		n := int(b[0] & 0x3f)
		for _, c := range []byte(b[1:long]) {
			n = n*256 + int(c)
		}
		if modelPut(n) == b[:long] {
			return n, long, true
		}
	}
	return 0, 0, false
}

// modelCheck: what is wrong with a frame, as the document has it in its order.
func modelCheck(f api.Frame) api.Errno {
	if f.Kind < 1 || f.Kind > 8 {
		return api.ErrRange
	}
	count := len(f.Nums)
	if f.Kind == acked {
		if count == 0 || count%2 == 1 || count > 2*maxRanges {
			return api.ErrShape
		}
	} else if count != counts[f.Kind] {
		return api.ErrShape
	}
	if f.Kind != stream && len(f.Data) > 0 {
		return api.ErrShape
	}
	for _, n := range f.Nums {
		if n < 0 || n > top {
			return api.ErrRange
		}
	}
	if len(f.Data) > piece {
		return api.ErrFull
	}
	if f.Kind == acked {
		for i := range count - 1 {
			// Hi and Lo of one may be the same; between two at least one is missing.
			if i%2 == 0 && f.Nums[i] < f.Nums[i+1] || i%2 == 1 && f.Nums[i] < f.Nums[i+1]+2 {
				return api.ErrShape
			}
		}
	}
	return api.OK
}

// modelPrint: the bytes of a frame that is right.
func modelPrint(f api.Frame) string {
	b := string([]byte{byte(f.Kind)})
	if f.Kind != acked {
		for _, n := range f.Nums {
			b += modelPut(n)
		}
		if f.Kind == stream {
			b += modelPut(len(f.Data)) + f.Data
		}
		return b
	}
	b += modelPut(f.Nums[0]) + modelPut(len(f.Nums)/2-1) + modelPut(f.Nums[0]-f.Nums[1])
	for i := 2; i < len(f.Nums); i += 2 {
		b += modelPut(f.Nums[i-1]-f.Nums[i]-2) + modelPut(f.Nums[i]-f.Nums[i+1])
	}
	return b
}

// modelParse reads bytes one number after the other.
func modelParse(b string) (api.Frame, int, bool) {
	at, right := 1, true
	next := func() int {
		n, long, ok := modelGet(b[at:])
		at, right = at+long, right && ok
		return n
	}
	if len(b) == 0 || b[0] < 1 || b[0] > 8 {
		return api.Frame{}, 0, false
	}
	f := api.Frame{Kind: int(b[0])}
	if f.Kind == acked {
		hi := next()
		more := next()
		lo := hi - next()
		f.Nums = []int{hi, lo}
		right = right && more < maxRanges
		for i := 0; right && i < more; i++ {
			hi = lo - 2 - next()
			lo = hi - next()
			f.Nums = append(f.Nums, hi, lo)
		}
		right = right && slices.Min(f.Nums) >= 0
	}
	for range counts[f.Kind] {
		f.Nums = append(f.Nums, next())
	}
	if f.Kind == stream {
		long := next()
		right = right && long <= piece && at+long <= len(b)
		if right {
			f.Data = b[at : at+long]
			at += long
		}
	}
	if !right {
		return api.Frame{}, 0, false
	}
	return f, at, true
}

// wantParsedAsModel: and what was read is right, and prints to the bytes that it was read from.
func wantParsedAsModel(t *testing.T, b string) bool {
	t.Helper()
	want, long, ok := modelParse(b)
	got, gotLong, err := frame.Parse(b)
	if !ok {
		if plain.Told(err) != api.ErrSyntax || gotLong != 0 || !same(got, api.Frame{}) {
			t.Errorf("Parse(%q) = %v, %d, %v; want ErrSyntax", b, got, gotLong, err)
		}
		return false
	}
	if err != nil || gotLong != long || !same(got, want) {
		t.Errorf("Parse(%q) = %v, %d, %v; want %v, %d", b, got, gotLong, err, want, long)
		return true
	}
	wantRight(t, got, b[:long])
	return true
}

// TestF1EveryShortText: all texts of up to two bytes, and of up to seven of the bytes that mean something.
func TestF1EveryShortText(t *testing.T) {
	wantParsedAsModel(t, "")
	for a := range 256 {
		wantParsedAsModel(t, string([]byte{byte(a)}))
		for b := range 256 {
			wantParsedAsModel(t, string([]byte{byte(a), byte(b)}))
			if a <= 9 {
				for _, c := range []byte{0, 1, 19, 20, 21, 63, 64, 127, 128, 191, 192, 255} {
					wantParsedAsModel(t, string([]byte{byte(a), byte(b), c}))
				}
			}
		}
	}
	var walk func(b string, alphabet string, most int)
	walk = func(b string, alphabet string, most int) {
		wantParsedAsModel(t, b)
		for i := 0; i < len(alphabet) && len(b) < most && !t.Failed(); i++ {
			walk(b+alphabet[i:i+1], alphabet, most)
		}
	}
	for kind := 1; kind <= 8; kind++ {
		walk(string([]byte{byte(kind)}), "\x00\x01\x02\x05", 7)
		walk(string([]byte{byte(kind)}), "\x00\x01\x14\x3f\x40\x80\xff", 5)
	}
}

// draw gives numbers below n, the same ones at each run.
type draw int

func (d *draw) below(n int) int {
	*d = (*d*1103515245 + 12345) & (1<<31 - 1)
	return int(*d>>12) % n
}

// number of any length, now and then one that is none.
func (d *draw) number() int {
	switch d.below(40) {
	case 0:
		return outside[d.below(len(outside))]
	case 1:
		return top - d.below(3)
	}
	return d.below(1 << d.below(19))
}

// falling numbers, most of them such that they are ranges.
func (d *draw) falling(many int) []int {
	n := many*500 + d.below(1<<d.below(19))
	var nums []int
	for range many {
		nums = append(nums, n)
		n -= 2 + d.below(1<<d.below(9))
		if d.below(30) == 0 {
			n++
		}
	}
	return nums
}

func (d *draw) text(many int) string {
	b := make([]byte, many)
	for i := range b {
		b[i] = byte(d.below(256))
	}
	return string(b)
}

// frame of any Kind, most of them right.
func (d *draw) frame() api.Frame {
	f := api.Frame{Kind: d.below(8) + 1}
	many := counts[f.Kind]
	if f.Kind == acked {
		many = 2 * (1 + d.below(maxRanges))
	}
	if d.below(20) == 0 {
		many = d.below(30)
	}
	for range many {
		f.Nums = append(f.Nums, d.number())
	}
	if f.Kind == acked && d.below(10) > 0 {
		f.Nums = d.falling(many)
	}
	if f.Kind == stream || d.below(20) == 0 {
		f.Data = d.text(d.below(piece + 2))
	}
	if d.below(40) == 0 {
		f.Kind = noKinds[d.below(len(noKinds))]
	}
	return f
}

// TestF1AsTheModel: frames of all kinds, right and wrong, and their bytes whole, cut off, changed, and with others behind them.
func TestF1AsTheModel(t *testing.T) {
	var d draw = 13
	told := map[api.Errno]int{}
	read, refused := 0, 0
	for range 40_000 {
		f := d.frame()
		want := modelCheck(f)
		told[want]++
		if want != api.OK {
			wantWrong(t, f, want)
			continue
		}
		b := modelPrint(f)
		wantRight(t, f, b)
		wantParse(t, b+d.text(d.below(30)), f, len(b), api.OK)
		changed := []byte(b)
		changed[d.below(len(b))] = byte(d.below(256))
		for _, text := range []string{b[:d.below(len(b))], string(changed), string(changed) + d.text(d.below(40))} {
			if wantParsedAsModel(t, text) {
				read++
			} else {
				refused++
			}
		}
		if t.Failed() {
			return
		}
	}
	for _, e := range []api.Errno{api.OK, api.ErrRange, api.ErrShape, api.ErrFull} {
		if told[e] < 100 {
			t.Errorf("%v was told only %d times", e, told[e])
		}
	}
	if read < 1000 || refused < 1000 {
		t.Errorf("%d texts were read, and %d refused", read, refused)
	}
}
