package packet_test

import (
	"math"
	"slices"
	"strings"
	"testing"

	"wanderwire/api"
	"wanderwire/frame"
	"wanderwire/packet"
	"wanderwire/plain"
)

// The numbers as the document has them, so that a change of one of them shows.
const (
	top       = 1<<30 - 1
	maxFrames = 12
	maxPacket = 200
	piece     = 20
	maxRanges = 12
)

// topBytes are those of MaxNumber, as a frame has it.
const topBytes = "\xbf\xff\xff\xff"

// outside: what is no number of a packet; some would be right if only their last bits were looked at.
var outside = []int{-1, -2, -256, -top, math.MinInt, math.MinInt + 1, top + 1, top + 2, 1 << 31, 1 << 32, 1<<32 + 5, math.MaxInt - 1, math.MaxInt}

// said: a frame, and its bytes.
type said struct {
	f api.Frame
	b string
}

// kinds: one frame of each.
var kinds = []said{
	{say(api.Ping), "\x01"},
	{say(api.Ack, 8, 7, 5, 3), "\x02\x08\x01\x01\x00\x02"},
	{saying("hello", api.Stream, 7), "\x03\x07\x05hello"},
	{say(api.Credit, 60), "\x04\x3c"},
	{say(api.Probe, 16384), "\x05\x80\x00\x40\x00"},
	{say(api.Answer, 256), "\x06\x41\x00"},
	{say(api.Issue, 3, top), "\x07\x03" + topBytes},
	{say(api.Retire, 0), "\x08\x00"},
}

// longest Stream and Probe that there are: of 26 and of 5 bytes.
var (
	longStream = said{saying("abcdefghijklmnopqrst", api.Stream, top), "\x03" + topBytes + "\x14abcdefghijklmnopqrst"}
	longProbe  = said{say(api.Probe, top), "\x05" + topBytes}
	ping       = kinds[0]
)

// numbered: a number, the one that is known, and the bytes that tell it.
var numbered = []struct {
	n, known int
	b        string
}{
	{0, -1, "\x01\x00"}, {1, -1, "\x01\x01"}, {1, 0, "\x01\x01"}, {44, 43, "\x01\x2c"},
	// The last and the first of one, two, three and four bytes, of none known, of 0 and of others.
	{127, -1, "\x01\x7f"}, {128, -1, "\x02\x00\x80"}, {128, 0, "\x01\x80"}, {129, 0, "\x02\x00\x81"},
	{255, 127, "\x01\xff"}, {255, 126, "\x02\x00\xff"}, {256, 128, "\x01\x00"}, {256, 127, "\x02\x01\x00"}, {300, 172, "\x01\x2c"}, {300, 171, "\x02\x01\x2c"},
	{32767, -1, "\x02\x7f\xff"}, {32768, -1, "\x03\x00\x80\x00"}, {32768, 0, "\x02\x80\x00"}, {32769, 0, "\x03\x00\x80\x01"},
	{65536, 32768, "\x02\x00\x00"}, {65536, 32767, "\x03\x01\x00\x00"}, {0x12345678, 0x12345678 - 32768, "\x02\x56\x78"},
	{8388607, -1, "\x03\x7f\xff\xff"}, {8388608, -1, "\x04\x00\x80\x00\x00"}, {8388608, 0, "\x03\x80\x00\x00"}, {8388609, 0, "\x04\x00\x80\x00\x01"},
	{0x12345678, 0x12345678 - 8388608, "\x03\x34\x56\x78"}, {0x12345678, 0x12345678 - 8388609, "\x04\x12\x34\x56\x78"}, {0x12345678, -1, "\x04\x12\x34\x56\x78"},
	// As great as they get.
	{top, top - 1, "\x01\xff"}, {top, top - 128, "\x01\xff"}, {top, top - 129, "\x02\xff\xff"}, {top, top - 32768, "\x02\xff\xff"}, {top, top - 32769, "\x03\xff\xff\xff"},
	{top, top - 8388608, "\x03\xff\xff\xff"}, {top, top - 8388609, "\x04\x3f\xff\xff\xff"}, {top, 0, "\x04\x3f\xff\xff\xff"}, {top, -1, "\x04\x3f\xff\xff\xff"},
	{top - 1, top - 2, "\x01\xfe"}, {top - 1, -1, "\x04\x3f\xff\xff\xfe"}, {1 << 29, -1, "\x04\x20\x00\x00\x00"},
}

// wrong: frames that chapter 13 refuses, and what it tells, a line a way.
var wrong = []struct {
	f   api.Frame
	err api.Errno
}{
	{say(0), api.ErrRange}, {say(9), api.ErrRange}, {say(-1), api.ErrRange}, {say(256 + api.Ping), api.ErrRange}, {say(math.MinInt), api.ErrRange}, {say(math.MaxInt), api.ErrRange},
	{say(api.Ping, 0), api.ErrShape},
	{say(api.Stream), api.ErrShape}, {say(api.Credit), api.ErrShape}, {say(api.Probe, 1, 2), api.ErrShape}, {say(api.Answer), api.ErrShape}, {say(api.Retire, 1, 2), api.ErrShape},
	{say(api.Issue, 3), api.ErrShape}, {say(api.Issue, 3, 4, 5), api.ErrShape},
	{say(api.Ack), api.ErrShape}, {say(api.Ack, 5), api.ErrShape}, {say(api.Ack, 8, 7, 5), api.ErrShape}, {say(api.Ack, spread(maxRanges+1)...), api.ErrShape},
	{saying("a", api.Ping), api.ErrShape}, {saying("a", api.Credit, 5), api.ErrShape}, {saying("a", api.Ack, 8, 7), api.ErrShape},
	{say(api.Credit, -1), api.ErrRange}, {say(api.Credit, top+1), api.ErrRange}, {say(api.Issue, 3, math.MinInt), api.ErrRange}, {say(api.Ack, 8, -1), api.ErrRange}, {saying("a", api.Stream, math.MaxInt), api.ErrRange},
	{saying(strings.Repeat("x", piece+1), api.Stream, 0), api.ErrFull}, {saying(strings.Repeat("x", 100_000), api.Stream, 0), api.ErrFull},
	{say(api.Ack, 7, 8), api.ErrShape}, {say(api.Ack, 8, 7, 6, 5), api.ErrShape}, {say(api.Ack, 5, 3, 8, 7), api.ErrShape},
}

// noFrames: bytes that begin with no frame, whatever is behind them, if they are whole.
var noFrames = []string{
	"\x00", "\x09", "\xff", "\x80\x00\x40\x00",
	"\x04\xc0", "\x04\xff\xff\xff\xff", "\x04\x40\x3f", "\x05\x80\x00\x3f\xff", "\x07\x03\x40\x00",
	"\x03\x07\x15abcdefghijklmnopqrstu", "\x03\x07\x40\x05hello", "\x03\x40\x07\x00",
	"\x02\x08\x00\x09", "\x02\x08\x01\x01\x06\x00", "\x02\x40\x79\x0c\x01" + strings.Repeat("\x07\x01", 12),
}

// say has a frame without bytes.
func say(kind int, nums ...int) api.Frame { return api.Frame{Kind: kind, Nums: nums} }

// saying has one with bytes.
func saying(data string, kind int, nums ...int) api.Frame {
	return api.Frame{Kind: kind, Nums: nums, Data: data}
}

// spread has the numbers of so many ranges of two numbers each, 10 apart.
func spread(many int) []int {
	var nums []int
	for i := many - 1; i >= 0; i-- {
		nums = append(nums, 10*i+1, 10*i)
	}
	return nums
}

// together: the frames, and all of their bytes.
func together(l ...said) ([]api.Frame, string) {
	var frames []api.Frame
	b := ""
	for _, s := range l {
		frames = append(frames, s.f)
		b += s.b
	}
	return frames, b
}

// pings: so many.
func pings(many int) []api.Frame { return slices.Repeat([]api.Frame{ping.f}, many) }

func same(a, b api.Frame) bool {
	return a.Kind == b.Kind && slices.Equal(a.Nums, b.Nums) && a.Data == b.Data
}

func sameAll(a, b []api.Frame) bool { return slices.EqualFunc(a, b, same) }

// clone has frames of which no memory is shared.
func clone(l []api.Frame) []api.Frame {
	var out []api.Frame
	for _, f := range l {
		out = append(out, api.Frame{Kind: f.Kind, Nums: slices.Clone(f.Nums), Data: f.Data})
	}
	return out
}

// guarded has the frames with marks behind them, and behind the numbers of each, and the whole of it with all marks to be seen.
func guarded(l []api.Frame) (frames, room []api.Frame) {
	mark := saying("mark", -77, 77)
	for _, f := range l {
		nums := append(slices.Clone(f.Nums), -77, 77)
		room = append(room, api.Frame{Kind: f.Kind, Nums: nums, Data: f.Data})
	}
	room = append(room, mark, mark)
	for _, f := range room[:len(l)] {
		f.Nums = f.Nums[:len(f.Nums)-2]
		frames = append(frames, f)
	}
	frames = append(frames, mark, mark)
	return frames[:len(l)], room
}

// scribble over frames and their numbers, and over what lies behind them, so that shared memory shows.
func scribble(l []api.Frame) {
	l = l[:cap(l)]
	for i := range l {
		nums := l[i].Nums[:cap(l[i].Nums)]
		for j := range nums {
			nums[j] = -99
		}
		l[i] = saying("scribble", -99)
	}
}

func wantPrint(t *testing.T, n, known int, l []api.Frame, want string, wantErr api.Errno) {
	t.Helper()
	frames, room := guarded(l)
	before, roomBefore := clone(frames[:len(l)+2]), clone(room)
	got, err := packet.Print(n, known, frames)
	if got != want || plain.Told(err) != wantErr {
		t.Errorf("Print(%d, %d, %v) = %q, %v; want %q, %v", n, known, l, got, err, want, wantErr)
	}
	if !sameAll(frames[:len(l)+2], before) || !sameAll(room, roomBefore) {
		t.Errorf("Print(%d, %d, %v) wrote into what it was given", n, known, l)
	}
}

func wantParse(t *testing.T, b string, next, want int, wantList []api.Frame, wantErr api.Errno) {
	t.Helper()
	n, l, err := packet.Parse(b, next)
	if n != want || !sameAll(l, wantList) || plain.Told(err) != wantErr {
		t.Errorf("Parse(%q, %d) = %d, %v, %v; want %d, %v, %v", b, next, n, l, err, want, wantList, wantErr)
	}
	// Were the answer kept inside, the scribbles would come out the second time.
	scribble(l)
	n, l, err = packet.Parse(b, next)
	if n != want || !sameAll(l, wantList) || plain.Told(err) != wantErr {
		t.Errorf("Parse(%q, %d) again = %d, %v, %v; want %d, %v, %v", b, next, n, l, err, want, wantList, wantErr)
	}
}

// wantRefused: these bytes are no packet, whatever number is the next.
func wantRefused(t *testing.T, b string) {
	t.Helper()
	for _, next := range []int{0, 1, 44, 300, 1 << 20, top} {
		wantParse(t, b, next, 0, nil, api.ErrSyntax)
	}
}

// nexts: what those expect who know a number from known to n - 1: all of them if they are few, else some.
func nexts(n, known int) []int {
	if n-known > 200 {
		return []int{known + 1, known + 2, known + (n-known)/2, n - 129, n - 128, n - 1, n}
	}
	var out []int
	for next := known + 1; next <= n; next++ {
		out = append(out, next)
	}
	return out
}

// wantBoth: the packet has these bytes, and all who know as much or more read it.
func wantBoth(t *testing.T, n, known int, l []api.Frame, b string) {
	t.Helper()
	wantPrint(t, n, known, l, b, api.OK)
	for _, next := range nexts(n, known) {
		wantParse(t, b, next, n, l, api.OK)
	}
}

func TestP1TheNumbersAreAsInAPI(t *testing.T) {
	got := []int{api.MaxNumber, api.MaxFrames, api.MaxPacket, api.MaxPiece, api.MaxRanges}
	if !slices.Equal(got, []int{top, maxFrames, maxPacket, piece, maxRanges}) {
		t.Errorf("the numbers are %v", got)
	}
}

func TestP1OneFrame(t *testing.T) {
	for _, c := range numbered {
		for _, s := range append(slices.Clone(kinds), longStream, longProbe) {
			wantBoth(t, c.n, c.known, []api.Frame{s.f}, c.b+s.b)
		}
	}
}

func TestP1SeveralFrames(t *testing.T) {
	backward := slices.Clone(kinds)
	slices.Reverse(backward)
	for _, list := range [][]said{
		kinds, backward, kinds[2:4], {ping, ping}, {kinds[2], kinds[2]}, {kinds[1], kinds[2], kinds[1]},
		slices.Concat(kinds, kinds[:4]), {longStream, longProbe, kinds[1], ping},
	} {
		l, b := together(list...)
		for _, c := range numbered {
			wantBoth(t, c.n, c.known, l, c.b+b)
		}
	}
	// The eight kinds, written out.
	l, _ := together(kinds...)
	wantBoth(t, 300, 172, l, "\x01\x2c\x01\x02\x08\x01\x01\x00\x02\x03\x07\x05hello\x04\x3c\x05\x80\x00\x40\x00\x06\x41\x00\x07\x03\xbf\xff\xff\xff\x08\x00")
}

func TestP1HowManyFrames(t *testing.T) {
	for many := 1; many <= maxFrames; many++ {
		wantBoth(t, 5, 4, pings(many), "\x01\x05"+strings.Repeat("\x01", many))
		wantBoth(t, top, -1, pings(many), "\x04\x3f\xff\xff\xff"+strings.Repeat("\x01", many))
	}
	for _, many := range []int{maxFrames + 1, maxFrames + 2, 100, 198, 256, 256 + 1, 256 + maxFrames, 10_000} {
		wantPrint(t, 5, 4, pings(many), "", api.ErrFull)
		wantPrint(t, top, -1, pings(many), "", api.ErrFull)
	}
	for many := maxFrames + 1; many <= maxPacket-2; many++ {
		wantRefused(t, "\x01\x05"+strings.Repeat("\x01", many))
	}
	// The last one is as long as several, and cut off.
	l, b := together(slices.Concat(slices.Repeat([]said{ping}, maxFrames-1), []said{longStream})...)
	wantBoth(t, 5, 4, l, "\x01\x05"+b)
	wantRefused(t, "\x01\x05"+b+"\x01")
	wantRefused(t, "\x01\x05"+b[:len(b)-1])
}

func TestP1NoFrame(t *testing.T) {
	for _, c := range numbered {
		wantPrint(t, c.n, c.known, nil, "", api.ErrNone)
		wantRefused(t, c.b)
	}
}

// streamOf so many bytes in all, from 6 to 26.
func streamOf(long int) said {
	data := longStream.f.Data[:long-6]
	return said{saying(data, api.Stream, top), "\x03" + topBytes + string([]byte{byte(len(data))}) + data}
}

// full has frames of so many bytes in all, from 12 on: they are few, so that only how long they are counts.
func full(long int) ([]api.Frame, string) {
	var list []said
	for ; long > 2*26; long -= 26 {
		list = append(list, longStream)
	}
	return together(append(list, streamOf(long/2), streamOf(long-long/2))...)
}

func TestP1HowLong(t *testing.T) {
	for _, c := range numbered {
		for _, long := range []int{100, maxPacket - 2, maxPacket - 1, maxPacket} {
			l, b := full(long - len(c.b))
			wantBoth(t, c.n, c.known, l, c.b+b)
		}
		for _, long := range []int{maxPacket + 1, maxPacket + 2, maxPacket + 5, 255, 256, 256 + 26} {
			l, b := full(long - len(c.b))
			wantPrint(t, c.n, c.known, l, "", api.ErrFull)
			wantParse(t, c.b+b, c.n, 0, nil, api.ErrFull)
		}
	}
	// As many as may be, of as many bytes as may be.
	l, b := together(slices.Concat(slices.Repeat([]said{longStream}, 6), slices.Repeat([]said{streamOf(7)}, 6))...)
	wantBoth(t, 0, -1, l, "\x01\x00"+b)
	// As many, each as long as may be.
	l, b = together(slices.Repeat([]said{longStream}, maxFrames)...)
	wantPrint(t, 0, -1, l, "", api.ErrFull)
	wantParse(t, "\x01\x00"+b, 0, 0, nil, api.ErrFull)
	// Just the number makes it too long.
	l, b = full(198)
	wantBoth(t, 200, 72, l, "\x01\xc8"+b)
	wantPrint(t, 200, 71, l, "", api.ErrFull)
	wantParse(t, "\x02\x00\xc8"+b, 200, 0, nil, api.ErrFull)
}

func TestP1PrintNoNumber(t *testing.T) {
	l, _ := together(kinds...)
	for _, n := range outside {
		for _, known := range []int{-1, 0, n - 1, n} {
			wantPrint(t, n, known, l, "", api.ErrRange)
		}
	}
	for _, known := range []int{-2, -3, -256, -top, math.MinInt, math.MinInt + 1, math.MinInt + 500} {
		for _, n := range []int{0, 1, 500, top} {
			wantPrint(t, n, known, l, "", api.ErrRange)
		}
	}
	for _, n := range []int{0, 1, 500, top} {
		for _, known := range []int{n, n + 1, top, top + 1, math.MaxInt} {
			wantPrint(t, n, known, l, "", api.ErrRange)
		}
	}
}

func TestP1PrintWrongFrame(t *testing.T) {
	for _, w := range wrong {
		if err := frame.Check(w.f); plain.Told(err) != w.err {
			t.Errorf("Check(%v) = %v; want %v", w.f, err, w.err)
		}
		for many := 1; many <= maxFrames; many++ {
			for at := range many {
				l := pings(many)
				l[at] = w.f
				wantPrint(t, 5, 4, l, "", w.err)
			}
		}
		for at := range len(kinds) + 1 {
			l, _ := together(kinds...)
			wantPrint(t, 300, -1, slices.Insert(l, at, w.f), "", w.err)
		}
	}
}

func TestP1PrintTellsTheFirstFrame(t *testing.T) {
	for _, first := range wrong {
		for _, second := range wrong {
			wantPrint(t, 5, 4, []api.Frame{first.f, second.f}, "", first.err)
			wantPrint(t, 5, 4, []api.Frame{ping.f, first.f, kinds[2].f, second.f}, "", first.err)
		}
	}
}

func TestP1PrintTellsTheFirst(t *testing.T) {
	long, _ := together(slices.Repeat([]said{longStream}, 8)...)
	for _, w := range wrong {
		// The number, ahead of all.
		for _, known := range []int{-2, 5} {
			wantPrint(t, 5, known, nil, "", api.ErrRange)
			wantPrint(t, 5, known, []api.Frame{w.f}, "", api.ErrRange)
			wantPrint(t, 5, known, pings(maxFrames+1), "", api.ErrRange)
			wantPrint(t, 5, known, long, "", api.ErrRange)
		}
		wantPrint(t, -1, -1, nil, "", api.ErrRange)
		wantPrint(t, top+1, top, pings(maxFrames+1), "", api.ErrRange)
		wantPrint(t, top+1, top, append(clone(long), w.f), "", api.ErrRange)
		// How many frames, ahead of what they are.
		for at := range maxFrames + 1 {
			l := pings(maxFrames + 1)
			l[at] = w.f
			wantPrint(t, 5, 4, l, "", api.ErrFull)
		}
		// What is wrong with one, ahead of how long they are: it stands first, within, and last.
		for at := range len(long) + 1 {
			wantPrint(t, 5, 4, slices.Insert(clone(long), at, w.f), "", w.err)
		}
	}
	wantPrint(t, 5, 4, long, "", api.ErrFull)
}

func TestP1ParseNumber(t *testing.T) {
	for _, c := range []struct {
		b       string
		next, n int
	}{
		// The nearest one, and of two as near the greater one.
		{"\x01\x2c", 0, 44}, {"\x01\x2c", 171, 44}, {"\x01\x2c", 172, 300}, {"\x01\x2c", 290, 300}, {"\x01\x2c", 427, 300}, {"\x01\x2c", 428, 556},
		{"\x02\x00\x05", 32772, 5}, {"\x02\x00\x05", 32773, 65541}, {"\x03\x00\x00\x05", 8388612, 5}, {"\x03\x00\x00\x05", 8388613, 16777221},
		// There is nothing below 0, nor above MaxNumber.
		{"\x01\xff", 0, 255}, {"\x02\xff\xff", 0, 65535}, {"\x03\xff\xff\xff", 0, 1<<24 - 1}, {"\x04\x3f\xff\xff\xff", 0, top},
		{"\x01\x00", top, top - 255}, {"\x02\x00\x00", top, top - 65535}, {"\x03\x00\x00\x00", top, top - (1<<24 - 1)}, {"\x04\x00\x00\x00\x00", top, 0},
		{"\x01\xff", top, top}, {"\x02\xff\xff", top, top}, {"\x03\xff\xff\xff", top, top}, {"\x04\x3f\xff\xff\xff", top, top},
		// The greatest byte stands first; more of them than were needed are right.
		{"\x02\x01\x02", 0, 258}, {"\x03\x01\x02\x03", 0, 66051}, {"\x04\x01\x02\x03\x04", 0, 16909060},
		{"\x02\x00\x05", 5, 5}, {"\x03\x00\x00\x05", 5, 5}, {"\x04\x00\x00\x00\x05", 5, 5}, {"\x04\x00\x00\x00\x00", 0, 0},
	} {
		for _, s := range kinds {
			wantParse(t, c.b+s.b, c.next, c.n, []api.Frame{s.f}, api.OK)
		}
		l, b := together(kinds...)
		wantParse(t, c.b+b, c.next, c.n, l, api.OK)
	}
}

func TestP1ParseNoNext(t *testing.T) {
	l, b := together(kinds...)
	wantParse(t, "\x01\x05"+b, 0, 5, l, api.OK)
	wantParse(t, "\x01\x05"+b, top, top-250, l, api.OK)
	for _, next := range outside {
		// Ahead of all that may be wrong with the bytes, also of how many there are.
		for _, text := range []string{"\x01\x05" + b, "", "\x00", "\x05", "\x01\x05", "\x04\x40\x00\x00\x00\x01", "\x01\x05" + strings.Repeat("\x01", 198), strings.Repeat("\x01", maxPacket+1)} {
			wantParse(t, text, next, 0, nil, api.ErrRange)
		}
	}
}

func TestP1ParseTooLong(t *testing.T) {
	// How many bytes, ahead of what they are.
	for _, long := range []int{maxPacket + 1, maxPacket + 2, 255, 256, 256 + 5, 65536 + 5, 1_000_000} {
		for _, c := range []string{"\x00", "\x01", "\x02", "\x05", "\xff"} {
			for _, next := range []int{0, 1, 300, top} {
				wantParse(t, strings.Repeat(c, long), next, 0, nil, api.ErrFull)
			}
		}
	}
	for long := range maxPacket + 1 {
		wantRefused(t, strings.Repeat("\x00", long))
		wantRefused(t, strings.Repeat("\xff", long))
	}
}

func TestP1ParseHowManyBytes(t *testing.T) {
	wantRefused(t, "")
	for first := range 256 {
		b := string([]byte{byte(first)})
		wantRefused(t, b)
		if 1 <= first && first <= 4 {
			continue
		}
		for long := range maxPacket {
			wantRefused(t, b+strings.Repeat("\x01", long))
		}
		// As if the number had all of these bytes, and as if it had fewer.
		wantRefused(t, b+strings.Repeat("\x00", min(first, maxPacket-2))+"\x01")
		wantRefused(t, b+"\x00\x00\x00\x05\x01")
		wantRefused(t, b+"\x05\x04\x3c")
	}
	// They end within the number, or just behind it.
	for first := 1; first <= 4; first++ {
		for long := range first + 1 {
			wantRefused(t, string([]byte{byte(first)})+strings.Repeat("\x01", long))
		}
	}
}

func TestP1ParseNoNumber(t *testing.T) {
	// Of four bytes some are no number, as it would be above MaxNumber.
	_, b := together(kinds...)
	for _, first := range []string{"\x04\x40\x00\x00\x00", "\x04\x40\x00\x00\x05", "\x04\x7f\xff\xff\xff", "\x04\x80\x00\x00\x00", "\x04\x80\x00\x00\x05", "\x04\xc0\x00\x00\x00", "\x04\xff\xff\xff\xff"} {
		wantRefused(t, first)
		wantRefused(t, first+b)
		for _, s := range kinds {
			wantRefused(t, first+s.b)
		}
	}
}

func TestP1ParseNoFrameAtSomePlace(t *testing.T) {
	for _, none := range noFrames {
		for many := range maxFrames {
			wantRefused(t, "\x01\x05"+strings.Repeat("\x01", many)+none)
			wantRefused(t, "\x01\x05"+strings.Repeat("\x01", many)+none+"\x01")
		}
		for at := range len(kinds) + 1 {
			_, before := together(kinds[:at]...)
			_, behind := together(kinds[at:]...)
			wantRefused(t, "\x02\x00\x05"+before+none+behind)
		}
	}
	// Packets that are cut off: those that end where a frame does are right, and no others.
	l, b := together(kinds...)
	ends := map[int]int{}
	for i := range kinds {
		_, before := together(kinds[:i+1]...)
		ends[len(before)] = i + 1
	}
	for long := range len(b) + 1 {
		if many := ends[long]; many > 0 {
			wantParse(t, "\x01\x05"+b[:long], 0, 5, l[:many], api.OK)
		} else {
			wantRefused(t, "\x01\x05"+b[:long])
		}
	}
}

func TestP1EmptyAndNilAreTheSame(t *testing.T) {
	for _, l := range [][]api.Frame{nil, {}, make([]api.Frame, 0, 5), pings(3)[:0]} {
		if b, err := packet.Print(5, 4, l); b != "" || plain.Told(err) != api.ErrNone {
			t.Errorf("Print of no frame = %q, %v", b, err)
		}
		if b, err := packet.Print(5, 5, l); b != "" || plain.Told(err) != api.ErrRange {
			t.Errorf("Print of no number and no frame = %q, %v", b, err)
		}
	}
	for _, nums := range [][]int{nil, {}, make([]int, 0, 5), []int{1, 2, 3}[:0]} {
		if b, err := packet.Print(5, 4, []api.Frame{{Kind: api.Ping, Nums: nums}}); b != "\x01\x05\x01" || err != nil {
			t.Errorf("Print of a Ping = %q, %v", b, err)
		}
		if b, err := packet.Print(5, 4, []api.Frame{{Kind: api.Credit, Nums: nums}}); b != "" || plain.Told(err) != api.ErrShape {
			t.Errorf("Print of a Credit of no number = %q, %v", b, err)
		}
	}
}

func TestP1NothingIsKept(t *testing.T) {
	l, b := together(kinds...)
	frames, room := guarded(l)
	got, err := packet.Print(5, 4, frames)
	scribble(frames)
	scribble(room)
	if got != "\x01\x05"+b || err != nil {
		t.Errorf("what was printed changed: %q, %v", got, err)
	}
	wantPrint(t, 5, 4, l, "\x01\x05"+b, api.OK)
}

func TestP1WhatIsReadIsFresh(t *testing.T) {
	l, b := together(slices.Concat(kinds, kinds[1:5])...)
	for i := range l {
		_, first, _ := packet.Parse("\x01\x05"+b, 5)
		_, second, _ := packet.Parse("\x01\x05"+b, 5)
		if len(first) != len(l) {
			t.Fatalf("%d frames were read; want %d", len(first), len(l))
		}
		// All that the numbers of one have is written over, also what lies behind them.
		nums := first[i].Nums[:cap(first[i].Nums)]
		for j := range nums {
			nums[j] = -99
		}
		want := clone(l)
		want[i].Nums = slices.Clone(first[i].Nums)
		if !sameAll(first, want) {
			t.Errorf("with the numbers of frame %d others changed: %v", i, first)
		}
		scribble(first)
		if !sameAll(second, l) {
			t.Errorf("what was read twice is shared: %v", second)
		}
	}
}

// modelNeed: chapter 2, written out.
func modelNeed(n, known int) (int, bool) {
	if n < 0 || n > top || known < -1 || known >= n {
		return 0, false
	}
	switch less := n - known; {
	case less <= 128:
		return 1, true
	case less <= 32768:
		return 2, true
	case less <= 8388608:
		return 3, true
	}
	return 4, true
}

// modelWhole looks at all numbers that are cut so and lie around next.
func modelWhole(cut, long, next int) (int, bool) {
	if long == 4 {
		return cut, cut <= top
	}
	step := []int{0, 1 << 8, 1 << 16, 1 << 24}[long]
	best := -1
	for n := next/step*step + cut - step; n <= next+2*step; n += step {
		if n < 0 || n > top {
			continue
		}
		if best < 0 || max(n-next, next-n) <= max(best-next, next-best) {
			best = n
		}
	}
	return best, best >= 0
}

// modelPrint: with chapter 13's own calls.
func modelPrint(n, known int, l []api.Frame) (string, api.Errno) {
	long, ok := modelNeed(n, known)
	if !ok {
		return "", api.ErrRange
	}
	if len(l) == 0 {
		return "", api.ErrNone
	}
	if len(l) > maxFrames {
		return "", api.ErrFull
	}
	for _, f := range l {
		if err := frame.Check(f); err != nil {
			return "", plain.Told(err)
		}
	}
	b := string([]byte{byte(n >> 24), byte(n >> 16), byte(n >> 8), byte(n)}[4-long:])
	b = string([]byte{byte(long)}) + b
	for _, f := range l {
		one, _ := frame.Print(f)
		b += one
	}
	if len(b) > maxPacket {
		return "", api.ErrFull
	}
	return b, api.OK
}

func modelParse(b string, next int) (int, []api.Frame, api.Errno) {
	if next < 0 || next > top {
		return 0, nil, api.ErrRange
	}
	if len(b) > maxPacket {
		return 0, nil, api.ErrFull
	}
	if len(b) < 3 || b[0] < 1 || b[0] > 4 || len(b) < 2+int(b[0]) {
		return 0, nil, api.ErrSyntax
	}
	at, cut := 1, 0
	for ; at <= int(b[0]); at++ {
		cut = cut*256 + int(b[at])
	}
	n, ok := modelWhole(cut, int(b[0]), next)
	if !ok {
		return 0, nil, api.ErrSyntax
	}
	var l []api.Frame
	for at < len(b) {
		f, long, err := frame.Parse(b[at:])
		if err != nil {
			return 0, nil, api.ErrSyntax
		}
		l = append(l, f)
		at += long
	}
	if len(l) > maxFrames {
		return 0, nil, api.ErrSyntax
	}
	return n, l, api.OK
}

// wantParsedAsModel tells whether it was read.
func wantParsedAsModel(t *testing.T, b string, next int) bool {
	t.Helper()
	want, wantList, wantErr := modelParse(b, next)
	n, l, err := packet.Parse(b, next)
	if n != want || !sameAll(l, wantList) || plain.Told(err) != wantErr {
		t.Errorf("Parse(%q, %d) = %d, %v, %v; want %d, %v, %v", b, next, n, l, err, want, wantList, wantErr)
	}
	return wantErr == api.OK
}

// TestP1EveryShortText: all texts of up to two bytes, and longer ones of the bytes that mean something.
func TestP1EveryShortText(t *testing.T) {
	someNexts := []int{-1, 0, 130, 1 << 20, top, top + 1, math.MinInt, math.MaxInt}
	each := func(b string) {
		for _, next := range someNexts {
			wantParsedAsModel(t, b, next)
		}
	}
	each("")
	for a := range 256 {
		each(string([]byte{byte(a)}))
		for b := range 256 {
			each(string([]byte{byte(a), byte(b)}))
			if a > 5 {
				continue
			}
			for c := range 256 {
				wantParsedAsModel(t, string([]byte{byte(a), byte(b), byte(c)}), 130)
			}
		}
	}
	var walk func(b, alphabet string, most int)
	walk = func(b, alphabet string, most int) {
		wantParsedAsModel(t, b, 130)
		for i := 0; i < len(alphabet) && len(b) < most && !t.Failed(); i++ {
			walk(b+alphabet[i:i+1], alphabet, most)
		}
	}
	for first := range 6 {
		walk(string([]byte{byte(first)}), "\x00\x01\x02\x03\x07\x40\x80", 7)
		walk(string([]byte{byte(first)}), "\x00\x01\x04\x3f\xff", 8)
	}
}

// draw gives numbers below n, the same ones at each run.
type draw int

func (d *draw) below(n int) int {
	*d = (*d*1103515245 + 12345) & (1<<31 - 1)
	return int(*d>>12) % n
}

// number of any length up to MaxNumber.
func (d *draw) number() int {
	return (d.below(1<<15)<<15 | d.below(1<<15)) >> d.below(31)
}

func (d *draw) text(many int) string {
	b := make([]byte, many)
	for i := range b {
		b[i] = byte(d.below(256))
	}
	return string(b)
}

// frame of any Kind, most of them right.
func (d *draw) frame() api.Frame {
	if d.below(60) == 0 {
		return wrong[d.below(len(wrong))].f
	}
	switch kind := d.below(8) + 1; kind {
	case api.Ping:
		return say(kind)
	case api.Ack:
		return say(kind, spread(1+d.below(maxRanges))...)
	case api.Issue:
		return say(kind, d.number(), d.number())
	case api.Stream:
		return saying(d.text(d.below(piece+1)), kind, d.number())
	default:
		return say(kind, d.number())
	}
}

// pair has a number and one that is known, now and then such as are none.
func (d *draw) pair() (n, known int) {
	n = d.number()
	known = max(-1, n-1-d.number())
	switch d.below(30) {
	case 0:
		n = outside[d.below(len(outside))]
	case 1:
		known = outside[d.below(len(outside))]
	}
	return n, known
}

// TestP1AsTheModel: packets right and wrong, and their bytes whole, cut off, changed, and with others behind them.
func TestP1AsTheModel(t *testing.T) {
	var d draw = 14
	told := map[api.Errno]int{}
	read, refused := 0, 0
	for range 20_000 {
		n, known := d.pair()
		var l []api.Frame
		for range d.below(15) {
			l = append(l, d.frame())
		}
		b, want := modelPrint(n, known, l)
		told[want]++
		wantPrint(t, n, known, l, b, want)
		if want != api.OK {
			continue
		}
		wantParse(t, b, known+1+d.below(n-known), n, l, api.OK)
		changed := []byte(b)
		changed[d.below(len(b))] = byte(d.below(256))
		for _, text := range []string{b, b[:d.below(len(b))], string(changed), b + d.text(1+d.below(3)), b + "\x01"} {
			if wantParsedAsModel(t, text, d.number()) {
				read++
			} else {
				refused++
			}
		}
		if t.Failed() {
			return
		}
	}
	for _, e := range []api.Errno{api.OK, api.ErrRange, api.ErrShape, api.ErrFull, api.ErrNone} {
		if told[e] < 100 {
			t.Errorf("%v was told only %d times", e, told[e])
		}
	}
	if read < 1000 || refused < 1000 {
		t.Errorf("%d texts were read, and %d refused", read, refused)
	}
}
