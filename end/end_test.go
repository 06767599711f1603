package end_test

import (
	"math"
	"slices"
	"strconv"
	"strings"
	"testing"

	"wanderwire/api"
	"wanderwire/end"
	"wanderwire/packet"
	"wanderwire/plain"
)

// The numbers as the document has them, so that a change of one of them shows.
const (
	top       = 1<<30 - 1
	most      = 60
	maxPiece  = 20
	maxWindow = 1000
	maxFrames = 12
	maxPacket = 200
	maxRanges = 12
)

// topBytes are those of MaxNumber, as a frame has it.
const topBytes = "\xbf\xff\xff\xff"

// Of what no End can be made, and how many bytes can not be read; some would be right if only their last bits were looked at.
var (
	noWindows = []int{0, -1, -2, -maxWindow, -1 << 32, math.MinInt, math.MinInt + 1, maxWindow + 1, maxWindow + 2, 1 << 16, 1 << 32, 1<<32 + 5, math.MaxInt - 1, math.MaxInt}
	noCounts  = []int{-1, -2, -most, -256, -256 + 5, -1 << 32, math.MinInt, math.MinInt + 1}
)

// whole: a text as long as can be, of which no two bytes are the same, 0 and 255 among them.
var whole = func() string {
	b := make([]byte, most)
	for i := range b {
		b[i] = byte(255 - 4*i)
	}
	b[most-1] = 0
	return string(b)
}()

// say has a frame without bytes.
func say(kind int, nums ...int) api.Frame { return api.Frame{Kind: kind, Nums: nums} }

// Frames of the kinds that an End takes; the numbers of an Ack are Hi and Lo each.
func ackOf(nums ...int) api.Frame { return say(api.Ack, nums...) }
func creditOf(n int) api.Frame    { return say(api.Credit, n) }
func saying(at int, data string) api.Frame {
	return api.Frame{Kind: api.Stream, Nums: []int{at}, Data: data}
}

// part of whole, from a place up to another one.
func part(from, to int) api.Frame { return saying(from, whole[from:to]) }

// fresh makes an End.
func fresh(t *testing.T, window int) *end.End {
	t.Helper()
	e, err := end.New(window)
	if e == nil || err != nil {
		t.Fatalf("New(%d) = %v, %v", window, e, err)
	}
	return e
}

// wrote makes an End by which so much of whole was written.
func wrote(t *testing.T, window, many int) *end.End {
	t.Helper()
	e := fresh(t, window)
	wantWrite(t, e, whole[:many], api.OK)
	return e
}

// pack has a packet, for one who knows nothing of those ahead of it.
func pack(t *testing.T, n int, l ...api.Frame) string {
	t.Helper()
	return packKnown(t, n, -1, l...)
}

func packKnown(t *testing.T, n, known int, l ...api.Frame) string {
	t.Helper()
	b, err := packet.Print(n, known, l)
	if err != nil {
		t.Fatalf("Print(%d, %d, %v): %v", n, known, l, err)
	}
	return b
}

func wantWrite(t *testing.T, e *end.End, data string, want api.Errno) {
	t.Helper()
	if err := e.Write(data); plain.Told(err) != want {
		t.Errorf("Write of %d bytes: %v; want %v", len(data), err, want)
	}
}

func wantTake(t *testing.T, e *end.End, b string, want api.Errno) {
	t.Helper()
	if err := e.Take(b); plain.Told(err) != want {
		t.Errorf("Take(%q): %v; want %v", b, err, want)
	}
}

func wantMade(t *testing.T, e *end.End, want string) {
	t.Helper()
	if got := e.Make(); got != want {
		t.Errorf("Make() = %q; want %q", got, want)
	}
}

// wantMake: a packet of that number, with that one known.
func wantMake(t *testing.T, e *end.End, n, known int, l ...api.Frame) {
	t.Helper()
	wantMade(t, e, packKnown(t, n, known, l...))
}

// wantRead also that so many less are Ready.
func wantRead(t *testing.T, e *end.End, n int, want string) {
	t.Helper()
	ready := e.Ready()
	if got, err := e.Read(n); got != want || err != nil {
		t.Errorf("Read(%d) = %q, %v; want %q", n, got, err, want)
	}
	if e.Ready() != ready-len(want) {
		t.Errorf("after Read(%d) of %d Ready() = %d", n, ready, e.Ready())
	}
}

// wantIs: the ends of the ranges are told two by two, Hi and Lo each.
func wantIs(t *testing.T, e *end.End, ready int, came ...int) {
	t.Helper()
	var want []api.Range
	for i := 0; i < len(came); i += 2 {
		want = append(want, api.Range{Hi: came[i], Lo: came[i+1]})
	}
	if e.Ready() != ready || !slices.Equal(e.Acked(), want) {
		t.Errorf("Ready() = %d, Acked() = %v; want %d, %v", e.Ready(), e.Acked(), ready, want)
	}
}

// above: a number that continues what came, so that it makes no range more.
func above(e *end.End) int {
	if l := e.Acked(); len(l) > 0 {
		return l[0].Hi + 1
	}
	return 0
}

// later: all that calls tell of an End from now on: whatever it knows is to be seen in it.
func later(t *testing.T, e *end.End) []string {
	t.Helper()
	var told []string
	tell := func(s string, err error) {
		told = append(told, s+" "+plain.Told(err).Error()+" "+strconv.Itoa(e.Ready()))
		for _, r := range e.Acked() {
			told = append(told, strconv.Itoa(r.Lo)+" "+strconv.Itoa(r.Hi))
		}
	}
	tell("", nil)
	// So many that the one that is known shows in how long the number is.
	for range 140 {
		tell(e.Make(), nil)
	}
	for _, data := range []string{"", "abcdefghijklm", "no", "p"} {
		tell("write", e.Write(data))
		tell(e.Make(), nil)
	}
	for i := range 16 {
		tell("ack", e.Take(pack(t, above(e), ackOf(i, i))))
		tell(e.Make(), nil)
	}
	for i := range most {
		tell("credit", e.Take(pack(t, above(e), creditOf(i+1))))
		tell(e.Make(), nil)
		tell("stream", e.Take(pack(t, above(e), saying(i, "?"))))
	}
	for range most {
		b, err := e.Read(1)
		tell(b, err)
		tell(e.Make(), nil)
	}
	return told
}

// wantAsOne: no later call tells one from the other; it ends what both are used for.
func wantAsOne(t *testing.T, what string, a, b *end.End) {
	t.Helper()
	got, want := later(t, a), later(t, b)
	for i := range want {
		if i >= len(got) || got[i] != want[i] {
			t.Errorf("%s: it shows later, at step %d", what, i)
			return
		}
	}
}

func TestE1New(t *testing.T) {
	for _, c := range []struct {
		window int
		made   string
	}{
		{1, "\x01\x00\x04\x01"}, {2, "\x01\x00\x04\x02"}, {63, "\x01\x00\x04\x3f"}, {64, "\x01\x00\x04\x40\x40"},
		{maxWindow - 1, "\x01\x00\x04\x43\xe7"}, {maxWindow, "\x01\x00\x04\x43\xe8"},
	} {
		e := fresh(t, c.window)
		wantIs(t, e, 0)
		wantRead(t, e, 5, "")
		wantMade(t, e, c.made)
		wantIs(t, e, 0)
	}
}

func TestE1NewRefuses(t *testing.T) {
	for _, window := range noWindows {
		if e, err := end.New(window); e != nil || plain.Told(err) != api.ErrRange {
			t.Errorf("New(%d) = %v, %v; want ErrRange", window, e, err)
		}
	}
}

func TestE1Write(t *testing.T) {
	for _, parts := range [][]int{{}, {0}, {0, 0}, {1}, {0, 1, 0, 2}, {20, 20}, {19, 1, 5}, {59}, {60}, {60, 0, 0}, {59, 1}, {0, 30, 30}, slices.Repeat([]int{1}, most)} {
		e := fresh(t, maxWindow)
		n := 0
		for _, long := range parts {
			wantWrite(t, e, whole[n:n+long], api.OK)
			n += long
		}
		wantAsOne(t, "written in parts", e, wrote(t, maxWindow, n))
	}
}

func TestE1WriteRefuses(t *testing.T) {
	for _, n := range []int{0, 1, 30, 59, 60} {
		for _, more := range []int{1, 2, most, 256, 256 + 1, 100_000} {
			e := wrote(t, maxWindow, n)
			wantWrite(t, e, strings.Repeat("x", most-n+more), api.ErrFull)
			wantIs(t, e, 0)
			wantAsOne(t, "a Write of too many", e, wrote(t, maxWindow, n))
		}
		// What is refused leaves room for what is not.
		e := wrote(t, maxWindow, n)
		wantWrite(t, e, strings.Repeat("x", most-n+1), api.ErrFull)
		wantWrite(t, e, whole[n:], api.OK)
		wantWrite(t, e, "x", api.ErrFull)
		wantWrite(t, e, "", api.OK)
		wantAsOne(t, "all", e, wrote(t, maxWindow, most))
	}
	// Also where the other one lets no more, and what was written is there.
	e := wrote(t, 1, most)
	wantWrite(t, e, "x", api.ErrFull)
	e = wrote(t, maxWindow, most)
	e.Make()
	wantTake(t, e, pack(t, 0, ackOf(0, 0)), api.OK)
	wantWrite(t, e, "x", api.ErrFull)
	wantMake(t, e, 1, 0, ackOf(0, 0), creditOf(maxWindow))
}

func TestE1MakePieces(t *testing.T) {
	for _, c := range []struct {
		window, wrote int
		ends          []int
	}{
		{maxWindow, 0, nil}, {maxWindow, 1, []int{1}}, {maxWindow, 10, []int{10}},
		{maxWindow, maxPiece - 1, []int{19}}, {maxWindow, maxPiece, []int{20}}, {maxWindow, maxPiece + 1, []int{20, 21}},
		{maxWindow, 39, []int{20, 39}}, {maxWindow, 40, []int{20, 40}}, {maxWindow, 41, []int{20, 40, 41}},
		{maxWindow, 59, []int{20, 40, 59}}, {maxWindow, most, []int{20, 40, 60}},
		// As far as is let: at first as much as its own window.
		{1, most, []int{1}}, {1, 1, []int{1}}, {1, 0, nil}, {2, most, []int{2}}, {10, 9, []int{9}}, {10, 10, []int{10}}, {10, 11, []int{10}},
		{19, most, []int{19}}, {20, most, []int{20}}, {21, most, []int{20, 21}}, {40, most, []int{20, 40}}, {41, most, []int{20, 40, 41}},
		{49, 54, []int{20, 40, 49}}, {59, most, []int{20, 40, 59}}, {60, most, []int{20, 40, 60}}, {61, most, []int{20, 40, 60}},
	} {
		e := wrote(t, c.window, c.wrote)
		l := []api.Frame{creditOf(c.window)}
		from := 0
		for _, to := range c.ends {
			l = append(l, part(from, to))
			from = to
		}
		// Again and again, as nothing is told to be there.
		for n := range 5 {
			wantMake(t, e, n, -1, l...)
		}
		wantIs(t, e, 0)
	}
}

func TestE1MakeBytes(t *testing.T) {
	e := fresh(t, 64)
	wantWrite(t, e, "hello", api.OK)
	wantMade(t, e, "\x01\x00\x04\x40\x40\x03\x00\x05hello")
	wantWrite(t, e, ", you out there, how is it?", api.OK)
	wantMade(t, e, "\x01\x01\x04\x40\x40\x03\x00\x14hello, you out there\x03\x14\x0c, how is it?")
	wantTake(t, e, "\x01\x03\x02\x00\x00\x00\x04\x08", api.OK)
	wantMade(t, e, "\x01\x02\x02\x03\x00\x00\x04\x40\x40\x03\x05\x14, you out there, how\x03\x19\x07 is it?")
	wantTake(t, e, "\x01\x00\x02\x01\x00\x00\x03\x00\x03yes", api.OK)
	wantMade(t, e, "\x01\x03\x02\x03\x01\x00\x01\x00\x04\x40\x40")
	wantRead(t, e, 3, "yes")
	wantMade(t, e, "\x01\x04\x02\x03\x01\x00\x01\x00\x04\x40\x40")
}

// TestE1MakeNumber: as long as the one that is known, none at first, asks for.
func TestE1MakeNumber(t *testing.T) {
	e := fresh(t, 5)
	for n := range 128 {
		wantMade(t, e, "\x01"+string([]byte{byte(n)})+"\x04\x05")
	}
	wantMade(t, e, "\x02\x00\x80\x04\x05")
	wantMade(t, e, "\x02\x00\x81\x04\x05")
	// Of several the greatest, also if it does not come last; what came is told, too.
	wantTake(t, e, "\x01\x00\x02\x02\x00\x00", api.OK)
	wantMade(t, e, "\x01\x82\x02\x00\x00\x00\x04\x05")
	wantMade(t, e, "\x02\x00\x83\x02\x00\x00\x00\x04\x05")
	wantTake(t, e, "\x01\x01\x02\x05\x01\x00\x00\x01", api.OK)
	wantMade(t, e, "\x01\x84\x02\x01\x00\x01\x04\x05")
	wantMade(t, e, "\x01\x85\x02\x01\x00\x01\x04\x05")
	wantMade(t, e, "\x02\x00\x86\x02\x01\x00\x01\x04\x05")
	wantTake(t, e, "\x01\x02\x02\x01\x00\x01", api.OK)
	wantMade(t, e, "\x02\x00\x87\x02\x02\x00\x02\x04\x05")
	wantTake(t, e, "\x01\x03\x02\x07\x00\x00\x02\x06\x00\x06", api.OK)
	wantMade(t, e, "\x02\x00\x88\x02\x03\x00\x03\x04\x05")
	wantTake(t, e, "\x01\x04\x02\x40\x87\x00\x00", api.OK)
	wantMade(t, e, "\x01\x89\x02\x04\x00\x04\x04\x05")
	// One that is less is no step back.
	wantTake(t, e, "\x01\x05\x02\x05\x00\x00", api.OK)
	wantMade(t, e, "\x01\x8a\x02\x05\x00\x05\x04\x05")
	wantTake(t, e, "\x01\x06\x02\x40\x8a\x00\x00\x02\x05\x00\x00", api.OK)
	wantMade(t, e, "\x01\x8b\x02\x06\x00\x06\x04\x05")
}

// TestE1MakeNumberOf0: that 0 is known is more than that none is.
func TestE1MakeNumberOf0(t *testing.T) {
	e, none := fresh(t, 5), fresh(t, 5)
	for range 128 {
		e.Make()
		none.Make()
	}
	wantTake(t, e, "\x01\x00\x02\x00\x00\x00", api.OK)
	wantTake(t, none, "\x01\x00\x04\x00", api.OK)
	wantMade(t, e, "\x01\x80\x02\x00\x00\x00\x04\x05")
	wantMade(t, none, "\x02\x00\x80\x02\x00\x00\x00\x04\x05")
}

// TestE1MakeAck: of all that came, each time, whether it was told already or not.
func TestE1MakeAck(t *testing.T) {
	e := fresh(t, 9)
	wantMake(t, e, 0, -1, creditOf(9))
	wantTake(t, e, pack(t, 4, creditOf(9)), api.OK)
	wantMake(t, e, 1, -1, ackOf(4, 4), creditOf(9))
	wantMake(t, e, 2, -1, ackOf(4, 4), creditOf(9))
	wantTake(t, e, pack(t, 6, creditOf(9)), api.OK)
	wantTake(t, e, pack(t, 1, creditOf(9)), api.OK)
	wantMake(t, e, 3, -1, ackOf(6, 6, 4, 4, 1, 1), creditOf(9))
	wantTake(t, e, pack(t, 5, creditOf(9)), api.OK)
	wantMake(t, e, 4, -1, ackOf(6, 4, 1, 1), creditOf(9))
	for _, n := range []int{0, 2, 3} {
		wantTake(t, e, pack(t, n, creditOf(9)), api.OK)
	}
	wantMake(t, e, 5, -1, ackOf(6, 0), creditOf(9))
	wantTake(t, e, pack(t, top, creditOf(9)), api.OK)
	wantMake(t, e, 6, -1, ackOf(top, top, 6, 0), creditOf(9))
}

// TestE1MakeLongest: with as many ranges, as far apart, and as many pieces as there can be it still is a packet.
func TestE1MakeLongest(t *testing.T) {
	e := wrote(t, maxWindow, most)
	var nums []int
	for i := range maxRanges {
		n := top - (maxRanges-1-i)*(1<<26)
		wantTake(t, e, pack(t, n, creditOf(0)), api.OK)
		nums = append([]int{n, n}, nums...)
		wantMake(t, e, i, -1, ackOf(nums...), creditOf(maxWindow), part(0, 20), part(20, 40), part(40, 60))
	}
}

// TestE1MakeCredit: chapter 9's Limit, of window at first, then behind what was read.
func TestE1MakeCredit(t *testing.T) {
	e := fresh(t, 10)
	wantTake(t, e, pack(t, 0, part(0, 10)), api.OK)
	wantMake(t, e, 0, -1, ackOf(0, 0), creditOf(10))
	wantRead(t, e, 5, whole[:5])
	wantMake(t, e, 1, -1, ackOf(0, 0), creditOf(10))
	wantTake(t, e, pack(t, 1, part(10, 11)), api.ErrFlow)
	wantRead(t, e, 1, whole[5:6])
	wantMake(t, e, 2, -1, ackOf(0, 0), creditOf(16))
	wantTake(t, e, pack(t, 1, part(10, 17)), api.ErrFlow)
	wantTake(t, e, pack(t, 1, part(10, 16)), api.OK)
	wantRead(t, e, 99, whole[6:16])
	wantMake(t, e, 3, -1, ackOf(1, 0), creditOf(26))
	// What is not read is none the more let, however often it comes.
	wantTake(t, e, pack(t, 2, part(16, 26)), api.OK)
	wantTake(t, e, pack(t, 3, part(16, 26)), api.OK)
	wantMake(t, e, 4, -1, ackOf(3, 0), creditOf(26))
}

// TestE1MakeLet: as far as the Credit of the other one, which may end within a piece, and no less than it once was.
func TestE1MakeLet(t *testing.T) {
	e := wrote(t, 25, most)
	own := creditOf(25)
	wantMake(t, e, 0, -1, own, part(0, 20), part(20, 25))
	wantTake(t, e, pack(t, 0, creditOf(24)), api.OK)
	wantMake(t, e, 1, -1, ackOf(0, 0), own, part(0, 20), part(20, 25))
	wantTake(t, e, pack(t, 1, creditOf(25)), api.OK)
	wantMake(t, e, 2, -1, ackOf(1, 0), own, part(0, 20), part(20, 25))
	wantTake(t, e, pack(t, 2, creditOf(26)), api.OK)
	wantMake(t, e, 3, -1, ackOf(2, 0), own, part(0, 20), part(20, 26))
	wantTake(t, e, pack(t, 3, creditOf(0)), api.OK)
	wantMake(t, e, 4, -1, ackOf(3, 0), own, part(0, 20), part(20, 26))
	wantTake(t, e, pack(t, 4, ackOf(0, 0)), api.OK)
	wantMake(t, e, 5, 0, ackOf(4, 0), own, part(25, 26))
	wantTake(t, e, pack(t, 5, creditOf(45)), api.OK)
	wantMake(t, e, 6, 0, ackOf(5, 0), own, part(25, 45))
	wantTake(t, e, pack(t, 6, creditOf(46), creditOf(30)), api.OK)
	wantMake(t, e, 7, 0, ackOf(6, 0), own, part(25, 45), part(45, 46))
	wantTake(t, e, pack(t, 7, creditOf(59)), api.OK)
	wantMake(t, e, 8, 0, ackOf(7, 0), own, part(25, 45), part(45, 59))
	wantTake(t, e, pack(t, 8, creditOf(top)), api.OK)
	wantMake(t, e, 9, 0, ackOf(8, 0), own, part(25, 45), part(45, 60))
	// What is let ahead of being written is let.
	e = fresh(t, 1)
	wantTake(t, e, pack(t, 0, creditOf(3)), api.OK)
	wantWrite(t, e, whole[:5], api.OK)
	wantMake(t, e, 0, -1, ackOf(0, 0), creditOf(1), part(0, 3))
}

// TestE2TakeAck: just what the packets had that it names is told to be there.
func TestE2TakeAck(t *testing.T) {
	// Packets 0 to 5, up to 3, 3, 10, 31, 31 and 60 of the bytes.
	build := func() *end.End {
		e := fresh(t, maxWindow)
		n := 0
		for _, to := range []int{3, 3, 10, 31, 31, 60} {
			wantWrite(t, e, whole[n:to], api.OK)
			n = to
			e.Make()
		}
		return e
	}
	for _, c := range []struct {
		nums []int
		from int
	}{
		{[]int{0, 0}, 3}, {[]int{1, 1}, 3}, {[]int{1, 0}, 3}, {[]int{2, 2}, 10}, {[]int{2, 0}, 10}, {[]int{2, 2, 0, 0}, 10},
		{[]int{3, 3}, 31}, {[]int{4, 4}, 31}, {[]int{4, 3}, 31}, {[]int{4, 2, 0, 0}, 31}, {[]int{4, 4, 2, 2, 0, 0}, 31},
		{[]int{5, 5}, 60}, {[]int{5, 0}, 60}, {[]int{5, 5, 3, 3, 1, 1}, 60},
	} {
		e := build()
		wantTake(t, e, pack(t, 0, ackOf(c.nums...)), api.OK)
		l := []api.Frame{ackOf(0, 0), creditOf(maxWindow)}
		for from := c.from; from < most; from += maxPiece {
			l = append(l, part(from, min(most, from+maxPiece)))
		}
		wantMake(t, e, 6, c.nums[0], l...)
		// What was told stays so, whatever is told later.
		wantTake(t, e, pack(t, 1, ackOf(0, 0)), api.OK)
		l[0] = ackOf(1, 0)
		wantMake(t, e, 7, c.nums[0], l...)
	}
	// Of none nothing is told, and what was sent ahead and is told later is told.
	e := build()
	wantTake(t, e, pack(t, 0, creditOf(0)), api.OK)
	wantMake(t, e, 6, -1, ackOf(0, 0), creditOf(maxWindow), part(0, 20), part(20, 40), part(40, 60))
	wantTake(t, e, pack(t, 1, ackOf(2, 2)), api.OK)
	wantMake(t, e, 7, 2, ackOf(1, 0), creditOf(maxWindow), part(10, 30), part(30, 50), part(50, 60))
	wantTake(t, e, pack(t, 2, ackOf(1, 1), ackOf(3, 3)), api.OK)
	wantMake(t, e, 8, 3, ackOf(2, 0), creditOf(maxWindow), part(31, 51), part(51, 60))
	wantTake(t, e, pack(t, 3, ackOf(7, 7)), api.OK)
	wantMake(t, e, 9, 7, ackOf(3, 0), creditOf(maxWindow))
}

// TestE2TakeAckOfNone: packets that had no piece tell but that they are there.
func TestE2TakeAckOfNone(t *testing.T) {
	e := fresh(t, maxWindow)
	e.Make()
	e.Make()
	wantWrite(t, e, whole[:2], api.OK)
	wantMake(t, e, 2, -1, creditOf(maxWindow), part(0, 2))
	wantTake(t, e, pack(t, 0, ackOf(1, 0)), api.OK)
	wantMake(t, e, 3, 1, ackOf(0, 0), creditOf(maxWindow), part(0, 2))
	wantTake(t, e, pack(t, 1, ackOf(3, 3, 1, 1)), api.OK)
	wantMake(t, e, 4, 3, ackOf(1, 0), creditOf(maxWindow))
	wantWrite(t, e, whole[2:3], api.OK)
	wantTake(t, e, pack(t, 2, ackOf(4, 4)), api.OK)
	wantMake(t, e, 5, 4, ackOf(2, 0), creditOf(maxWindow), part(2, 3))
}

// TestE2TakeAckOfMany: however many packets there are, an Ack of any of them is right.
func TestE2TakeAckOfMany(t *testing.T) {
	e := wrote(t, maxWindow, 10)
	const many = 100_000
	for range many {
		e.Make()
	}
	wantWrite(t, e, whole[10:30], api.OK)
	for range many {
		e.Make()
	}
	wantTake(t, e, pack(t, 0, ackOf(2*many, 2*many)), api.ErrState)
	wantTake(t, e, pack(t, 0, ackOf(many-1, 0)), api.OK)
	wantMake(t, e, 2*many, many-1, ackOf(0, 0), creditOf(maxWindow), part(10, 30))
	wantTake(t, e, pack(t, 1, ackOf(many, many)), api.OK)
	wantMake(t, e, 2*many+1, many, ackOf(1, 0), creditOf(maxWindow))
}

func TestE2TakeAckRefuses(t *testing.T) {
	// Of no packet at all.
	for _, nums := range [][]int{{0, 0}, {1, 1}, {1, 0}, {top, 0}, {top, top}} {
		e := fresh(t, 5)
		wantTake(t, e, pack(t, 0, ackOf(nums...)), api.ErrState)
		wantIs(t, e, 0)
		wantAsOne(t, "an Ack of none", e, fresh(t, 5))
	}
	// Of those behind the last of three.
	build := func() *end.End {
		e := wrote(t, 5, 3)
		for range 3 {
			e.Make()
		}
		return e
	}
	for _, nums := range [][]int{{3, 3}, {4, 4}, {3, 0}, {3, 2}, {4, 4, 2, 0}, {3, 3, 1, 1}, {5, 4, 2, 2, 0, 0}, {258, 258}, {1 << 16, 0}, {top, top}, {top, 0}, {top, top, 1, 0}} {
		e := build()
		wantTake(t, e, pack(t, 0, ackOf(nums...)), api.ErrState)
		wantIs(t, e, 0)
		wantAsOne(t, "an Ack of more than there are", e, build())
	}
	e := build()
	wantTake(t, e, pack(t, 0, ackOf(2, 2)), api.OK)
	wantIs(t, e, 0, 0, 0)
}

func TestE2TakeStream(t *testing.T) {
	e := fresh(t, 30)
	wantTake(t, e, pack(t, 0, part(3, 8)), api.OK)
	wantIs(t, e, 0, 0, 0)
	wantTake(t, e, pack(t, 1, part(0, 2), part(12, 13)), api.OK)
	wantIs(t, e, 2, 1, 0)
	// Nothing at all, within what is let, and again the same.
	wantTake(t, e, pack(t, 2, part(30, 30), part(2, 2), part(0, 2)), api.OK)
	wantIs(t, e, 2, 2, 0)
	wantTake(t, e, pack(t, 3, part(1, 10)), api.OK)
	wantIs(t, e, 10, 3, 0)
	wantRead(t, e, 4, whole[:4])
	wantTake(t, e, pack(t, 4, part(10, 30), part(0, 20)), api.OK)
	wantIs(t, e, 26, 4, 0)
	wantRead(t, e, 99, whole[4:30])
	// Twelve of them in one packet, the last first.
	e = fresh(t, maxWindow)
	var l []api.Frame
	for i := range maxFrames {
		l = append(l, part(5*(maxFrames-1-i), 5*(maxFrames-i)))
	}
	wantTake(t, e, pack(t, 0, l...), api.OK)
	wantIs(t, e, most, 0, 0)
	wantRead(t, e, most, whole)
}

// TestE2TakeStreamRefuses: chapter 9's Take ahead of chapter 10's Put.
func TestE2TakeStreamRefuses(t *testing.T) {
	for _, c := range []struct {
		window, at int
		data       string
		want       api.Errno
	}{
		{1, 0, "a", api.OK}, {1, 1, "", api.OK}, {1, 0, "ab", api.ErrFlow}, {1, 1, "a", api.ErrFlow}, {1, 2, "", api.ErrFlow},
		{10, 9, "a", api.OK}, {10, 10, "", api.OK}, {10, 10, "a", api.ErrFlow}, {10, 0, "abcdefghijk", api.ErrFlow}, {10, 11, "", api.ErrFlow},
		{most, 59, "a", api.OK}, {most, 60, "", api.OK}, {most, 60, "a", api.ErrFlow}, {most, 59, "ab", api.ErrFlow}, {most, 61, "", api.ErrFlow},
		{most + 1, 60, "a", api.ErrFull}, {most + 1, 59, "ab", api.ErrFull}, {most + 1, 61, "", api.ErrRange}, {most + 1, 61, "a", api.ErrFlow}, {most + 1, 60, "ab", api.ErrFlow},
		{maxWindow, 60, "", api.OK}, {maxWindow, 60, "a", api.ErrFull}, {maxWindow, 41, strings.Repeat("a", 20), api.ErrFull}, {maxWindow, 61, "", api.ErrRange}, {maxWindow, 61, "a", api.ErrRange},
		{maxWindow, 256, "a", api.ErrRange}, {maxWindow, maxWindow, "", api.ErrRange}, {maxWindow, maxWindow - 1, "a", api.ErrRange}, {maxWindow, maxWindow, "a", api.ErrFlow}, {maxWindow, maxWindow + 1, "", api.ErrFlow},
		// What goes beyond the greatest number there is is no place; up to it all is but too far.
		{10, top, "", api.ErrFlow}, {10, top - 1, "a", api.ErrFlow}, {10, top, "a", api.ErrRange}, {10, top - 18, strings.Repeat("a", 20), api.ErrRange}, {10, top - 20, strings.Repeat("a", 20), api.ErrFlow}, {10, top - 19, strings.Repeat("a", 20), api.ErrRange},
	} {
		e := fresh(t, c.window)
		wantTake(t, e, pack(t, 0, saying(c.at, c.data)), c.want)
		if c.want != api.OK {
			wantIs(t, e, 0)
			wantAsOne(t, "a Stream that is refused", e, fresh(t, c.window))
		}
	}
}

// TestE2TakeClash: another byte than came, ahead of it, in the same packet, or behind what was read.
func TestE2TakeClash(t *testing.T) {
	build := func() *end.End {
		e := fresh(t, maxWindow)
		wantTake(t, e, pack(t, 0, saying(0, "hello"), saying(8, "x")), api.OK)
		wantRead(t, e, 2, "he")
		return e
	}
	for _, l := range [][]api.Frame{
		{saying(0, "H")}, {saying(1, "a")}, {saying(4, "a")}, {saying(8, "y")}, {saying(3, "lo, yo")}, {saying(0, "hellO")},
		{saying(5, ", y"), saying(7, "Y")}, {saying(20, "ab"), saying(21, "c")}, {saying(5, "a"), saying(5, "a"), saying(5, "b")},
	} {
		e := build()
		wantTake(t, e, pack(t, 1, l...), api.ErrClash)
		wantIs(t, e, 3, 0, 0)
		wantAsOne(t, "a byte that is another one", e, build())
	}
	// The same bytes again are none.
	e := build()
	wantTake(t, e, pack(t, 1, saying(5, ", yx"), saying(0, "hello, yx"), saying(8, "x")), api.OK)
	wantIs(t, e, 7, 1, 0)
	// Beyond what is let it does not come so far.
	e = fresh(t, 5)
	wantTake(t, e, pack(t, 0, saying(0, "hello")), api.OK)
	wantTake(t, e, pack(t, 1, saying(0, "jelly!")), api.ErrFlow)
}

// TestE2TakeCredit: one that is less than what was let is no error, and takes nothing back.
func TestE2TakeCredit(t *testing.T) {
	for _, n := range []int{0, 1, 24, 25} {
		e, other := wrote(t, 25, most), wrote(t, 25, most)
		wantTake(t, e, pack(t, 0, creditOf(n)), api.OK)
		wantTake(t, other, pack(t, 0, ackless()), api.OK)
		wantAsOne(t, "a Credit of no more", e, other)
	}
	for _, n := range []int{26, 40, 59, 60, 61, 1 << 16, top} {
		e := wrote(t, 25, most)
		wantTake(t, e, pack(t, 0, creditOf(n)), api.OK)
		l := []api.Frame{ackOf(0, 0), creditOf(25)}
		for from := 0; from < min(n, most); from += maxPiece {
			l = append(l, part(from, min(n, most, from+maxPiece)))
		}
		wantMake(t, e, 0, -1, l...)
	}
}

// ackless: a frame of which nothing comes but that its packet did.
func ackless() api.Frame { return saying(0, "") }

// busy: an End in the midst of things: packets 0 to 3 were made, with up to 30, 30, 30 and 42 of the 45 bytes that were written; 0 to 29 are told; bytes 0 to 6 and 10 to 14 came, of which two were read, by packets 2 and 5.
func busy(t *testing.T) *end.End {
	t.Helper()
	e := wrote(t, 30, 45)
	for n := range 3 {
		wantMake(t, e, n, -1, creditOf(30), part(0, 20), part(20, 30))
	}
	wantTake(t, e, pack(t, 2, ackOf(1, 0), creditOf(42), part(0, 5), part(10, 15)), api.OK)
	wantMake(t, e, 3, 1, ackOf(2, 2), creditOf(30), part(30, 42))
	wantTake(t, e, pack(t, 5, part(4, 7)), api.OK)
	wantRead(t, e, 2, whole[:2])
	wantIs(t, e, 5, 5, 5, 2, 2)
	return e
}

// doing: frames of which each would change what a busy End knows.
var doing = []api.Frame{ackOf(3, 3), creditOf(60), part(7, 12)}

// TestE2Later: that what is asked of an End from now on shows all that it knows.
func TestE2Later(t *testing.T) {
	with := func(f api.Frame) *end.End {
		e := busy(t)
		wantTake(t, e, pack(t, 6, f), api.OK)
		return e
	}
	want := later(t, with(ackless()))
	if got := later(t, with(ackless())); !slices.Equal(got, want) {
		t.Error("the same calls tell another thing")
	}
	for _, f := range append(slices.Clone(doing), ackOf(2, 2), creditOf(43), part(28, 29), part(16, 17)) {
		if slices.Equal(later(t, with(f)), want) {
			t.Errorf("of %v nothing shows", f)
		}
	}
	for i, do := range []func(*end.End){
		func(e *end.End) { wantTake(t, e, pack(t, 3, ackless()), api.OK) },
		func(e *end.End) { wantRead(t, e, 1, whole[2:3]) },
		func(e *end.End) { wantWrite(t, e, "x", api.OK) },
		func(e *end.End) { e.Make() },
	} {
		e := with(ackless())
		do(e)
		if slices.Equal(later(t, e), want) {
			t.Errorf("of the call of row %d nothing shows", i)
		}
	}
}

// refused: frames that a busy End refuses, and what it tells.
var refused = []struct {
	f    api.Frame
	want api.Errno
}{
	{ackOf(4, 4), api.ErrState}, {ackOf(4, 0), api.ErrState}, {ackOf(top, top), api.ErrState}, {ackOf(5, 5, 3, 0), api.ErrState},
	{saying(30, "a"), api.ErrFlow}, {saying(11, "abcdefghijklmnopqrst"), api.ErrFlow}, {saying(31, ""), api.ErrFlow}, {saying(top, ""), api.ErrFlow},
	{saying(top, "a"), api.ErrRange}, {saying(top-5, "abcdefgh"), api.ErrRange},
	{saying(0, "?"), api.ErrClash}, {saying(12, "?"), api.ErrClash}, {saying(7, "????"), api.ErrClash},
	{say(api.Ping), api.ErrShape}, {say(api.Probe, 3), api.ErrShape}, {say(api.Answer, 3), api.ErrShape}, {say(api.Issue, 3, 4), api.ErrShape}, {say(api.Retire, 3), api.ErrShape},
	{say(api.Probe, 0), api.ErrShape}, {say(api.Answer, top), api.ErrShape}, {say(api.Issue, 0, 0), api.ErrShape}, {say(api.Retire, top), api.ErrShape},
}

// TestE2TakeRefuses: wherever the frame stands, and whatever stands beside it, nothing is done.
func TestE2TakeRefuses(t *testing.T) {
	want := later(t, busy(t))
	for _, c := range refused {
		for _, l := range [][]api.Frame{
			{c.f},
			append([]api.Frame{c.f}, doing...),
			append(slices.Clone(doing), c.f),
			{doing[0], c.f, doing[1], doing[2]},
			{doing[2], doing[1], c.f, doing[0]},
			{doing[1], c.f}, {doing[2], c.f}, {c.f, doing[0]}, {c.f, c.f},
		} {
			for _, n := range []int{6, 3, 0, 200} {
				e := busy(t)
				wantTake(t, e, pack(t, n, l...), c.want)
				wantIs(t, e, 5, 5, 5, 2, 2)
				if !slices.Equal(later(t, e), want) {
					t.Errorf("%v of packet %d: it shows later", l, n)
				}
			}
		}
	}
	// Without it the same frames are taken.
	e := busy(t)
	wantTake(t, e, pack(t, 6, doing...), api.OK)
	wantIs(t, e, 13, 6, 5, 2, 2)
	wantMake(t, e, 4, 3, ackOf(6, 5, 2, 2), creditOf(30), part(42, 45))
}

// TestE2TakeFirst: of several frames that are refused the first one tells.
func TestE2TakeFirst(t *testing.T) {
	for _, a := range refused {
		for _, b := range refused {
			e := busy(t)
			wantTake(t, e, pack(t, 6, a.f, b.f), a.want)
			wantTake(t, e, pack(t, 6, doing[0], doing[1], doing[2], a.f, b.f, b.f), a.want)
			wantIs(t, e, 5, 5, 5, 2, 2)
		}
	}
	// What comes of the first may make the second wrong, or right.
	e := fresh(t, 10)
	wantTake(t, e, pack(t, 0, saying(3, "ab"), saying(4, "c"), say(api.Ping)), api.ErrClash)
	wantTake(t, e, pack(t, 0, creditOf(20), saying(10, "a"), say(api.Ping)), api.ErrFlow)
	wantTake(t, e, pack(t, 0, say(api.Ping), saying(10, "a")), api.ErrShape)
	wantIs(t, e, 0)
}

// noPackets: bytes that are none, whatever is known.
var noPackets = []string{
	"", "\x00", "\x01", "\x02", "\x04", "\x05", "\xff", "\x00\x04\x05", "\x00\x06\x04\x05", "\x01\x06", "\x02\x06", "\x02\x00\x06", "\x03\x00\x06", "\x04\x00\x00\x06\x04"[:4], "\x04\x00\x00\x00\x06",
	"\x05\x00\x00\x00\x00\x06\x04\x05", "\x06\x00\x00\x00\x00\x00\x06\x04\x05", "\x04\x40\x00\x00\x00\x04\x05", "\x04\xff\xff\xff\xff\x04\x05",
	"\x01\x06\x00", "\x01\x06\x09", "\x01\x06\xff", "\x01\x06\x04", "\x01\x06\x04\x40", "\x01\x06\x04\x40\x05", "\x01\x06\x04\xc0\x00\x00\x05",
	"\x01\x06\x03", "\x01\x06\x03\x07", "\x01\x06\x03\x07\x02a", "\x01\x06\x03\x07\x15abcdefghijklmnopqrstu",
	"\x01\x06\x02", "\x01\x06\x02\x03", "\x01\x06\x02\x03\x00", "\x01\x06\x02\x03\x00\x04", "\x01\x06\x02\x03\x01\x00\x02\x00", "\x01\x06\x02\x03\x0c\x00" + strings.Repeat("\x00\x00", 12),
	"\x01\x06\x04\x3c\x00", "\x01\x06\x04\x3c\x04", "\x01\x06\x03\x07\x01a\x00", "\x01\x06\x04\x3c\x09",
	"\x01\x06" + strings.Repeat("\x04\x3c", maxFrames+1), "\x01\x06" + strings.Repeat("\x01", maxPacket-2),
}

// TestE2TakeNoPacket: chapter 14's error is told ahead of whatever is wrong beside it.
func TestE2TakeNoPacket(t *testing.T) {
	want := later(t, busy(t))
	tell := func(b string, no api.Errno) {
		t.Helper()
		e := busy(t)
		wantTake(t, e, b, no)
		wantIs(t, e, 5, 5, 5, 2, 2)
		if !slices.Equal(later(t, e), want) {
			t.Errorf("%q: it shows later", b)
		}
		e = fresh(t, 7)
		wantTake(t, e, b, no)
		wantAsOne(t, "bytes that are no packet", e, fresh(t, 7))
	}
	for _, b := range noPackets {
		tell(b, api.ErrSyntax)
	}
	// Behind frames that are right, or that are refused, and of a number that came.
	tell("\x01\x06\x02\x03\x00\x00\x04\x3c\x03\x07\x01a\x09", api.ErrSyntax)
	tell("\x01\x06\x01\x09", api.ErrSyntax)
	tell("\x01\x06\x02\x3f\x00\x00\x00", api.ErrSyntax)
	tell("\x01\x06\x03\x00\x01?\x04", api.ErrSyntax)
	tell("\x01\x05\x04\x3c\x04", api.ErrSyntax)
	tell("\x01\x05", api.ErrSyntax)
	// Longer than a packet is, of whatever else is wrong.
	long := strings.Repeat("\x03\x00\x14"+whole[:20], 8)
	tell("\x01\x06"+long+strings.Repeat("\x01", maxPacket-2-len(long)+1), api.ErrFull)
	tell("\x01\x05"+strings.Repeat("\x01", maxPacket-1), api.ErrFull)
	tell(strings.Repeat("\x00", maxPacket+1), api.ErrFull)
	tell(strings.Repeat("\xff", 100_000), api.ErrFull)
	tell(strings.Repeat("\xff", maxPacket), api.ErrSyntax)
}

// TestE2TakeLongest: a packet of as many bytes, and of as many frames, as it may have.
func TestE2TakeLongest(t *testing.T) {
	e := fresh(t, maxWindow)
	l := slices.Repeat([]api.Frame{part(0, 20)}, 8)
	b := pack(t, 0, append(l, part(20, 31))...)
	if len(b) != maxPacket {
		t.Fatalf("%d bytes", len(b))
	}
	wantTake(t, e, b, api.OK)
	wantIs(t, e, 31, 0, 0)
	wantTake(t, e, pack(t, 1, append(slices.Repeat([]api.Frame{creditOf(9)}, maxFrames-1), part(31, 32))...), api.OK)
	wantIs(t, e, 32, 1, 0)
}

// TestE2TakeNumber: what is not told of a number is that which makes it nearest to one above the greatest that came.
func TestE2TakeNumber(t *testing.T) {
	for _, c := range []struct {
		came []int
		b    string
		n    int
	}{
		{nil, "\x01\x00", 0}, {nil, "\x01\x01", 1}, {nil, "\x01\xff", 255}, {nil, "\x02\xff\xff", 65535}, {nil, "\x04\x3f\xff\xff\xff", top}, {nil, "\x04\x00\x00\x00\x05", 5},
		{[]int{300}, "\x01\x2d", 301}, {[]int{300}, "\x01\xad", 429}, {[]int{300}, "\x01\xae", 174}, {[]int{300}, "\x02\x00\x07", 7}, {[]int{300}, "\x01\x2b", 299},
		// Of the greatest, not of the last one, nor of how many came.
		{[]int{300, 5}, "\x01\xad", 429}, {[]int{5, 300, 299}, "\x01\xad", 429}, {[]int{5, 300, 299}, "\x01\xae", 174}, {[]int{300, 0}, "\x01\x04", 260},
		{[]int{127}, "\x01\x00", 256}, {[]int{126}, "\x01\x00", 0}, {[]int{127}, "\x01\x01", 1}, {[]int{0}, "\x01\x81", 129}, {[]int{0, 1, 2}, "\x01\x03", 3},
		{[]int{top - 1}, "\x01\xff", top}, {[]int{top - 1}, "\x01\x00", top - 255}, {[]int{top - 1}, "\x04\x00\x00\x00\x00", 0},
	} {
		e := fresh(t, 5)
		for _, n := range c.came {
			wantTake(t, e, pack(t, n, creditOf(0)), api.OK)
		}
		has := func(n int) bool {
			return slices.ContainsFunc(e.Acked(), func(r api.Range) bool { return r.Lo <= n && n <= r.Hi })
		}
		if has(c.n) {
			t.Fatalf("%d came already", c.n)
		}
		wantTake(t, e, c.b+"\x04\x00", api.OK)
		if !has(c.n) {
			t.Errorf("%v, and %q: %v came; want %d, too", c.came, c.b, e.Acked(), c.n)
		}
	}
}

// TestE2TakeBehindLast: of the greatest number that there is none is one above; so chapter 14 tells, ahead of all else.
func TestE2TakeBehindLast(t *testing.T) {
	build := func() *end.End {
		e := wrote(t, 5, 3)
		e.Make()
		wantTake(t, e, pack(t, 3, ackless()), api.OK)
		wantTake(t, e, pack(t, top, part(0, 4)), api.OK)
		return e
	}
	e := build()
	for _, b := range []string{"", "\x01\x00\x01", pack(t, 0, creditOf(9)), pack(t, 3, creditOf(9)), pack(t, top, part(0, 4)), pack(t, top-1, ackOf(0, 0)), strings.Repeat("\xff", 500)} {
		wantTake(t, e, b, api.ErrRange)
	}
	wantIs(t, e, 4, top, top, 3, 3)
	wantMake(t, e, 1, -1, ackOf(top, top, 3, 3), creditOf(5), part(0, 3))
	wantRead(t, e, 9, whole[:4])
	wantMake(t, e, 2, -1, ackOf(top, top, 3, 3), creditOf(9), part(0, 3))
}

// TestE2TakeTwice: of a number that came nothing is done, whatever the packet has.
func TestE2TakeTwice(t *testing.T) {
	want := later(t, busy(t))
	all := [][]api.Frame{doing, {doing[0]}, {doing[1]}, {doing[2]}, {ackless()}, {part(4, 7)}}
	for _, c := range refused {
		all = append(all, []api.Frame{c.f}, append(slices.Clone(doing), c.f))
	}
	for _, l := range all {
		for _, n := range []int{2, 5} {
			e := busy(t)
			wantTake(t, e, pack(t, n, l...), api.OK)
			wantIs(t, e, 5, 5, 5, 2, 2)
			if !slices.Equal(later(t, e), want) {
				t.Errorf("%v of packet %d, which came: it shows later", l, n)
			}
		}
	}
	// A number that was refused did not come.
	e := busy(t)
	wantTake(t, e, pack(t, 6, say(api.Ping)), api.ErrShape)
	wantTake(t, e, pack(t, 6, ackless()), api.OK)
	wantTake(t, e, pack(t, 6, say(api.Ping)), api.OK)
	wantIs(t, e, 5, 6, 5, 2, 2)
}

// spread: an End to which as many numbers with gaps came as it can know of: 2, 5, 8 and so on.
func spread(t *testing.T) *end.End {
	t.Helper()
	e := wrote(t, 30, 45)
	e.Make()
	e.Make()
	for i := range maxRanges {
		wantTake(t, e, pack(t, 3*i+2, ackless()), api.OK)
	}
	return e
}

// TestE2TakeFull: one range more is refused last of all, and then nothing is done either.
func TestE2TakeFull(t *testing.T) {
	frames := []api.Frame{ackOf(1, 0), creditOf(60), part(0, 9)}
	all := spread(t).Acked()
	if len(all) != maxRanges {
		t.Fatalf("%d ranges", len(all))
	}
	for _, n := range []int{0, 37, 38, 255, 5000, top} {
		for _, l := range [][]api.Frame{frames, {frames[0]}, {frames[1]}, {frames[2]}, {ackless()}} {
			e := spread(t)
			wantTake(t, e, pack(t, n, l...), api.ErrFull)
			if e.Ready() != 0 || !slices.Equal(e.Acked(), all) {
				t.Errorf("packet %d: Ready %d, %v came", n, e.Ready(), e.Acked())
			}
			wantAsOne(t, "a range too many", e, spread(t))
		}
		// A frame that is refused is told ahead of it.
		e := spread(t)
		wantTake(t, e, pack(t, n, frames[0], frames[1], frames[2], say(api.Ping)), api.ErrShape)
		wantTake(t, e, pack(t, n, ackOf(2, 2)), api.ErrState)
		wantTake(t, e, pack(t, n, saying(31, "")), api.ErrFlow)
		wantTake(t, e, pack(t, n, saying(top, "a")), api.ErrRange)
		wantTake(t, e, pack(t, n, saying(3, "ab"), saying(4, "c")), api.ErrClash)
	}
	// One that came, one beside a range, and one that closes a gap make no more of them.
	e := spread(t)
	wantTake(t, e, pack(t, 2, say(api.Ping)), api.OK)
	wantTake(t, e, pack(t, 1, frames...), api.OK)
	wantTake(t, e, pack(t, 0, ackless()), api.OK)
	wantTake(t, e, pack(t, 40, ackless()), api.ErrFull)
	wantTake(t, e, pack(t, 36, ackless()), api.OK)
	wantTake(t, e, pack(t, 3, ackless()), api.OK)
	wantTake(t, e, pack(t, 40, ackless()), api.ErrFull)
	wantTake(t, e, pack(t, 4, ackless()), api.OK)
	wantTake(t, e, pack(t, 40, ackless()), api.OK)
	wantTake(t, e, pack(t, 42, ackless()), api.ErrFull)
	wantIs(t, e, 9, 40, 40, 36, 35, 32, 32, 29, 29, 26, 26, 23, 23, 20, 20, 17, 17, 14, 14, 11, 11, 8, 8, 5, 0)
}

func TestE2Read(t *testing.T) {
	e := fresh(t, maxWindow)
	wantRead(t, e, 0, "")
	wantRead(t, e, 1, "")
	wantRead(t, e, math.MaxInt, "")
	wantTake(t, e, pack(t, 0, part(0, 12), part(15, 18)), api.OK)
	wantRead(t, e, 0, "")
	wantRead(t, e, 1, whole[:1])
	wantRead(t, e, 5, whole[1:6])
	// All that is ready, and one more than is, which lies behind a gap.
	f := fresh(t, maxWindow)
	wantTake(t, f, pack(t, 0, part(0, 12), part(15, 18)), api.OK)
	wantRead(t, f, 12, whole[:12])
	wantRead(t, f, 1, "")
	wantRead(t, e, 7, whole[6:12])
	wantRead(t, e, 7, "")
	wantTake(t, e, pack(t, 1, part(12, 15)), api.OK)
	wantIs(t, e, 6, 1, 0)
	wantRead(t, e, math.MaxInt, whole[12:18])
	wantTake(t, e, pack(t, 2, part(18, 38), part(38, 58), part(58, 60)), api.OK)
	wantRead(t, e, 1<<32, whole[18:])
	wantRead(t, e, 1, "")
}

func TestE2ReadRefuses(t *testing.T) {
	want, empty := later(t, busy(t)), later(t, fresh(t, 9))
	for _, n := range noCounts {
		e, f := busy(t), fresh(t, 9)
		for _, x := range []*end.End{e, f} {
			if got, err := x.Read(n); got != "" || plain.Told(err) != api.ErrRange {
				t.Errorf("Read(%d) = %q, %v; want ErrRange", n, got, err)
			}
		}
		wantIs(t, e, 5, 5, 5, 2, 2)
		if !slices.Equal(later(t, e), want) || !slices.Equal(later(t, f), empty) {
			t.Errorf("Read(%d): it shows later", n)
		}
	}
}

// TestE2ReadLets: of as many as were read, not as many as were asked for, more is let.
func TestE2ReadLets(t *testing.T) {
	for _, window := range []int{1, 2, 3, 8, 9, 20} {
		e := fresh(t, window)
		limit, read, came := window, 0, 0
		for n := 0; read < most; n++ {
			to := min(came+min(window, 3), limit, most)
			wantTake(t, e, pack(t, n, part(came, to)), api.OK)
			came = to
			if limit < most {
				wantTake(t, e, pack(t, n+1, saying(limit, "x")), api.ErrFlow)
			}
			wantRead(t, e, 2, whole[read:min(read+2, came)])
			read = min(read+2, came)
			if read-(limit-window) > window/2 {
				limit = read + window
			}
			wantMake(t, e, n, -1, ackOf(n, 0), creditOf(limit))
		}
	}
	e := fresh(t, 10)
	wantTake(t, e, pack(t, 0, part(0, 3), part(4, 10)), api.OK)
	wantRead(t, e, 10, whole[:3])
	wantMake(t, e, 0, -1, ackOf(0, 0), creditOf(10))
}

// TestE2Ready: what is there without a gap, whatever else was done.
func TestE2Ready(t *testing.T) {
	e := wrote(t, 40, 10)
	for n, c := range []struct{ from, to, ready int }{{20, 40, 0}, {5, 10, 0}, {1, 5, 0}, {0, 1, 10}, {10, 19, 19}, {19, 20, 40}, {0, 20, 40}} {
		wantTake(t, e, pack(t, n, part(c.from, c.to)), api.OK)
		wantIs(t, e, c.ready, n, 0)
		e.Make()
		wantIs(t, e, c.ready, n, 0)
	}
	wantRead(t, e, 15, whole[:15])
	wantIs(t, e, 25, 6, 0)
}

// TestP2Acked: what it gives is the caller's.
func TestP2Acked(t *testing.T) {
	want := later(t, busy(t))
	e := busy(t)
	a, b := e.Acked(), e.Acked()
	for i := range a {
		a[i] = api.Range{Lo: -7, Hi: -7}
	}
	a = append(a[:1], api.Range{Lo: 1000, Hi: 1000})
	all := a[:cap(a)]
	for i := range all {
		all[i] = api.Range{Lo: 77, Hi: 77}
	}
	if !slices.Equal(b, []api.Range{{Lo: 5, Hi: 5}, {Lo: 2, Hi: 2}}) {
		t.Errorf("another list has %v", b)
	}
	wantIs(t, e, 5, 5, 5, 2, 2)
	if !slices.Equal(later(t, e), want) {
		t.Error("what is written into a list shows later")
	}
	// Nor does what comes later show in it.
	e = busy(t)
	c := e.Acked()
	for _, n := range []int{0, 1, 3, 4, 6} {
		wantTake(t, e, pack(t, n, ackless()), api.OK)
	}
	if !slices.Equal(c, []api.Range{{Lo: 5, Hi: 5}, {Lo: 2, Hi: 2}}) {
		t.Errorf("a list has %v later", c)
	}
	if l := fresh(t, 1).Acked(); len(l) != 0 {
		t.Errorf("of none: %v", l)
	}
}

// TestP2Apart: two Ends know nothing of each other.
func TestP2Apart(t *testing.T) {
	want, wantFresh := later(t, busy(t)), later(t, fresh(t, 30))
	a, b := busy(t), fresh(t, 30)
	later(t, busy(t))
	if !slices.Equal(later(t, b), wantFresh) || !slices.Equal(later(t, a), want) {
		t.Error("one End knows what was done with another one")
	}
	a, b = wrote(t, 9, 5), fresh(t, 7)
	a.Make()
	wantTake(t, b, pack(t, 0, ackOf(0, 0)), api.ErrState)
	wantTake(t, a, pack(t, 0, ackOf(0, 0), part(0, 4)), api.OK)
	wantIs(t, a, 4, 0, 0)
	wantIs(t, b, 0)
	wantMake(t, b, 0, -1, creditOf(7))
	wantTake(t, b, pack(t, 0, ackOf(0, 0)), api.OK)
	wantMake(t, a, 1, 0, ackOf(0, 0), creditOf(9))
}
