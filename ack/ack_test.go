package ack_test

import (
	"math"
	"slices"
	"strings"
	"testing"

	"wanderwire/ack"
	"wanderwire/api"
	"wanderwire/plain"
	"wanderwire/ranges"
)

const top = api.MaxNumber

// topBytes are those of MaxNumber.
const topBytes = "\xbf\xff\xff\xff"

// outside: what is no number; some would be right if only their last bits were looked at.
var outside = []int{-1, -2, math.MinInt, top + 1, 1<<32 + 5, math.MaxInt}

// list of ranges, from Lo and Hi by turns.
func list(ends ...int) []api.Range {
	var l []api.Range
	for i := 0; i < len(ends); i += 2 {
		l = append(l, api.Range{Lo: ends[i], Hi: ends[i+1]})
	}
	return l
}

// spread has so many ranges of two numbers each, 10 apart, the lowest from lo on.
func spread(many, lo int) []api.Range {
	var l []api.Range
	for i := many - 1; i >= 0; i-- {
		l = append(l, api.Range{Lo: lo + 10*i, Hi: lo + 10*i + 1})
	}
	return l
}

// spreadBytes are those of spread with lo 0, for as many ranges as are told and as many as there are.
func spreadBytes(told, many int) string {
	hi := 10*(many-1) + 1
	b := string([]byte{byte(hi)})
	if hi >= 64 {
		b = string([]byte{0x40 | byte(hi>>8), byte(hi)})
	}
	return b + string([]byte{byte(told - 1)}) + "\x01" + strings.Repeat("\x07\x01", many-1)
}

// scribble over a list, and over what lies behind it, so that shared memory shows.
func scribble(l []api.Range) {
	l = l[:cap(l)]
	for i := range l {
		l[i] = api.Range{Lo: -1, Hi: -2}
	}
}

func wantPrint(t *testing.T, l []api.Range, want string, wantErr api.Errno) {
	t.Helper()
	mark := api.Range{Lo: -77, Hi: -78}
	room := append(slices.Clone(l), mark, mark, mark)
	before := slices.Clone(room)
	got, err := ack.Print(room[:len(l)])
	if got != want || plain.Told(err) != wantErr {
		t.Errorf("Print(%v) = %q, %v; want %q, %v", l, got, err, want, wantErr)
	}
	if !slices.Equal(room, before) {
		t.Errorf("Print(%v) wrote into it", l)
	}
}

func wantParse(t *testing.T, b string, want []api.Range, wantErr api.Errno) {
	t.Helper()
	got, err := ack.Parse(b)
	if !slices.Equal(got, want) || plain.Told(err) != wantErr {
		t.Errorf("Parse(%q) = %v, %v; want %v, %v", b, got, err, want, wantErr)
	}
	// Were the answer kept inside, the scribbles would come out the second time.
	scribble(got)
	again, err := ack.Parse(b)
	if !slices.Equal(again, want) || plain.Told(err) != wantErr {
		t.Errorf("Parse(%q) again = %v, %v; want %v, %v", b, again, err, want, wantErr)
	}
}

// wantRefused: no ranges have these bytes.
func wantRefused(t *testing.T, b string) {
	t.Helper()
	wantParse(t, b, nil, api.ErrSyntax)
}

// told: ranges, and the bytes that they have.
var told = []struct {
	l []api.Range
	b string
}{
	// One range.
	{list(0, 0), "\x00\x00\x00"},
	{list(4, 4), "\x04\x00\x00"},
	{list(3, 4), "\x04\x00\x01"},
	{list(0, 4), "\x04\x00\x04"},
	{list(top, top), topBytes + "\x00\x00"},
	{list(top-1, top), topBytes + "\x00\x01"},
	{list(0, top), topBytes + "\x00" + topBytes},
	// One number missing between two, two, and many.
	{list(7, 8, 3, 5), "\x08\x01\x01\x00\x02"},
	{list(7, 8, 3, 4), "\x08\x01\x01\x01\x01"},
	{list(7, 7, 0, 0), "\x07\x01\x00\x05\x00"},
	{list(2, 2, 0, 0), "\x02\x01\x00\x00\x00"},
	{list(top, top, 0, 0), topBytes + "\x01\x00\xbf\xff\xff\xfd\x00"},
	{list(top, top, 0, top-2), topBytes + "\x01\x00\x00\xbf\xff\xff\xfd"},
	{list(2, top, 0, 0), topBytes + "\x01\xbf\xff\xff\xfd\x00\x00"},
	{list(20, 21, 12, 14, 8, 10, 1, 2), "\x15\x03\x01\x04\x02\x00\x02\x04\x01"},
	// The last numbers of each length and the first of the next: as Hi,
	{list(63, 63), "\x3f\x00\x00"},
	{list(64, 64), "\x40\x40\x00\x00"},
	{list(16383, 16383), "\x7f\xff\x00\x00"},
	{list(16384, 16384), "\x80\x00\x40\x00\x00\x00"},
	// as Hi less Lo of the first,
	{list(0, 63), "\x3f\x00\x3f"},
	{list(0, 64), "\x40\x40\x00\x40\x40"},
	{list(0, 16383), "\x7f\xff\x00\x7f\xff"},
	{list(0, 16384), "\x80\x00\x40\x00\x00\x80\x00\x40\x00"},
	// as how many are missing less one,
	{list(65, 65, 0, 0), "\x40\x41\x01\x00\x3f\x00"},
	{list(66, 66, 0, 0), "\x40\x42\x01\x00\x40\x40\x00"},
	{list(16385, 16385, 0, 0), "\x80\x00\x40\x01\x01\x00\x7f\xff\x00"},
	{list(16386, 16386, 0, 0), "\x80\x00\x40\x02\x01\x00\x80\x00\x40\x00\x00"},
	// and as Hi less Lo of another.
	{list(65, 65, 0, 63), "\x40\x41\x01\x00\x00\x3f"},
	{list(66, 66, 0, 64), "\x40\x42\x01\x00\x00\x40\x40"},
	{list(16385, 16385, 0, 16383), "\x80\x00\x40\x01\x01\x00\x00\x7f\xff"},
	{list(16386, 16386, 0, 16384), "\x80\x00\x40\x02\x01\x00\x00\x80\x00\x40\x00"},
	// Many ranges.
	{spread(3, 0), "\x15\x02\x01\x07\x01\x07\x01"},
	{spread(api.MaxRanges-1, 0), spreadBytes(api.MaxRanges-1, api.MaxRanges-1)},
	{spread(api.MaxRanges, 0), spreadBytes(api.MaxRanges, api.MaxRanges)},
	{spread(api.MaxRanges, top-111), topBytes + spreadBytes(api.MaxRanges, api.MaxRanges)[2:]},
}

func TestA1Print(t *testing.T) {
	for _, c := range told {
		wantPrint(t, c.l, c.b, api.OK)
	}
}

func TestA1PrintNone(t *testing.T) {
	wantPrint(t, nil, "", api.ErrNone)
	wantPrint(t, []api.Range{}, "", api.ErrNone)
	wantPrint(t, list(5, 5)[:0], "", api.ErrNone)
}

func TestA1PrintWrong(t *testing.T) {
	for _, many := range []int{api.MaxRanges + 1, api.MaxRanges + 2, 100} {
		wantPrint(t, spread(many, 0), "", api.ErrFull)
		wantPrint(t, make([]api.Range, many), "", api.ErrFull)
	}
	for _, n := range outside {
		for _, l := range [][]api.Range{
			list(n, n), list(n, 3), list(3, n), list(100, 200, n, 3), list(100, 200, 3, n), list(n, n, 3, 3),
			slices.Concat(spread(api.MaxRanges-1, 100), list(n, n)),
		} {
			wantPrint(t, l, "", api.ErrRange)
		}
	}
	for _, l := range [][]api.Range{
		list(5, 4), list(top, 0), list(20, 21, 5, 4), list(7, 8, 4, 6), list(7, 8, 4, 7), list(7, 8, 7, 8),
		list(7, 8, 4, 9), list(4, 5, 7, 8), list(1, 1, 0, 0), list(20, 21, 4, 5, 10, 11),
		slices.Concat(spread(api.MaxRanges-1, 100), list(99, 99)),
	} {
		wantPrint(t, l, "", api.ErrShape)
	}
}

func TestA1PrintTellsTheFirst(t *testing.T) {
	wantPrint(t, slices.Concat(spread(api.MaxRanges, 100), list(-1, -1)), "", api.ErrFull)
	wantPrint(t, slices.Repeat(list(9, 3), api.MaxRanges+1), "", api.ErrFull)
	wantPrint(t, list(top+1, 3), "", api.ErrRange)
	wantPrint(t, list(7, 8, -1, 9), "", api.ErrRange)
	wantPrint(t, list(6, 5, -1, 3), "", api.ErrShape)
	wantPrint(t, list(-1, 3, 6, 5), "", api.ErrRange)
}

func TestA1Parse(t *testing.T) {
	for _, c := range told {
		wantParse(t, c.b, c.l, api.OK)
	}
}

func TestA1ParseCutOffOrMore(t *testing.T) {
	wantRefused(t, "")
	for _, c := range told {
		for i := range len(c.b) {
			wantRefused(t, c.b[:i])
		}
		for _, more := range []string{"\x00", "\x01", "\xff", "\x40", "\x00\x00", "\x40\x40", topBytes, c.b} {
			wantRefused(t, c.b+more)
		}
	}
}

func TestA1ParseWrongNumbers(t *testing.T) {
	// At each place of a number one that chapter 1 refuses: for its two bits, for a shorter way, for too few bytes.
	for _, l := range [][]string{
		{"\x08", "\x00", "\x01"},
		{"\x08", "\x01", "\x01", "\x00", "\x02"},
		{"\x40\x50", "\x02", "\x01", "\x07", "\x01", "\x07", "\x01"},
	} {
		for i := range l {
			for _, bad := range []string{
				"\xff", "\xc0", "\xc0\x00\x00\x00", "\xff\xff\xff\xff", "\xc0\x00\x00\x00\x00\x00\x00\x00",
				"\x40\x00", "\x40\x01", "\x40\x3f", "\x80\x00\x00\x00", "\x80\x00\x00\x01", "\x80\x00\x3f\xff",
			} {
				b := strings.Join(l[:i], "") + bad
				wantRefused(t, b)
				wantRefused(t, b+strings.Join(l[i+1:], ""))
			}
			for _, few := range []string{"\x40", "\x7f", "\x80", "\x80\x00", "\x80\x00\x40", "\xbf\xff\xff"} {
				wantRefused(t, strings.Join(l[:i], "")+few)
			}
		}
	}
}

func TestA1ParseHowMany(t *testing.T) {
	for _, many := range []int{1, 2, 5, api.MaxRanges - 1, api.MaxRanges} {
		wantParse(t, spreadBytes(many, many), spread(many, 0), api.OK)
		wantRefused(t, spreadBytes(many+1, many))
		wantRefused(t, spreadBytes(many, many+1))
		wantRefused(t, spreadBytes(many+2, many))
	}
	// Each range is there, but there are too many.
	for _, many := range []int{api.MaxRanges + 1, api.MaxRanges + 2, 64} {
		wantRefused(t, spreadBytes(many, many))
	}
	// As many as no bytes have.
	for _, many := range []string{"\x0c", "\x3f", "\x40\x40", "\x7f\xff", "\x80\x00\x40\x00", topBytes} {
		wantRefused(t, "\x08"+many+"\x01")
		wantRefused(t, "\x08"+many+"\x01\x00\x02")
		wantRefused(t, "\x08"+many)
	}
	wantRefused(t, strings.Repeat("\x00", 100000))
	wantRefused(t, topBytes+"\x3f"+strings.Repeat("\x00", 1+2*63))
	wantRefused(t, topBytes+"\x7f\xff"+strings.Repeat("\x00", 1+2*16383))
}

func TestA1ParseBelowZero(t *testing.T) {
	for _, b := range []string{
		// Lo of the first.
		"\x00\x00\x01", "\x08\x00\x09", "\x00\x00" + topBytes, "\xbf\xff\xff\xfe\x00" + topBytes, "\x08\x00\x3f",
		"\x08\x01\x09\x00\x00",
		// Hi of the second, just and by much.
		"\x00\x01\x00\x00\x00", "\x01\x01\x00\x00\x00", "\x08\x01\x01\x06\x00", "\x08\x01\x01" + topBytes + "\x00",
		"\x08\x01\x08\x00\x00", "\x08\x01\x07\x00\x00",
		// Lo of the second.
		"\x08\x01\x01\x00\x06", "\x08\x01\x01\x05\x01", "\x02\x01\x00\x00\x01", "\x08\x01\x01\x00" + topBytes,
		// Of a third.
		"\x08\x02\x01\x00\x02\x02\x00", "\x08\x02\x01\x00\x02\x01\x01", "\x08\x02\x01\x00\x02\x00\x02",
		// Of all of them.
		topBytes + "\x0b" + strings.Repeat(topBytes, 1+2*(api.MaxRanges-1)),
	} {
		wantRefused(t, b)
	}
	// Just not below.
	wantParse(t, "\x08\x01\x01\x05\x00", list(7, 8, 0, 0), api.OK)
	wantParse(t, "\x08\x01\x01\x00\x05", list(7, 8, 0, 5), api.OK)
	wantParse(t, "\x08\x02\x01\x00\x02\x01\x00", list(7, 8, 3, 5, 0, 0), api.OK)
	wantParse(t, "\x08\x02\x01\x00\x02\x00\x01", list(7, 8, 3, 5, 0, 1), api.OK)
	// The last of as many as may be: down to 0, and one below.
	full := "\x16\x0b\x00" + strings.Repeat("\x00\x00", api.MaxRanges-1)
	wantParse(t, full, list(22, 22, 20, 20, 18, 18, 16, 16, 14, 14, 12, 12, 10, 10, 8, 8, 6, 6, 4, 4, 2, 2, 0, 0), api.OK)
	wantRefused(t, "\x15"+full[1:])
	wantRefused(t, full[:len(full)-1]+"\x01")
}

// ofBits has the ranges of the numbers whose bits are set.
func ofBits(bits int) []api.Range {
	var l []api.Range
	for n := 20; n >= 0; n-- {
		switch {
		case bits>>n&1 == 0:
		case bits>>(n+1)&1 == 1:
			l[len(l)-1].Lo = n
		default:
			l = append(l, api.Range{Lo: n, Hi: n})
		}
	}
	return l
}

func TestA1PrintedIsReadAsItWas(t *testing.T) {
	for bits := 1; bits < 1<<12; bits++ {
		wantBack(t, ofBits(bits))
	}
	// Ranges that lie wide apart, so that each number has each length.
	ends := []int{0, 1, 62, 64, 66, 129, 16383, 16386, 32768, 32771, 1 << 20, 1<<20 + 5, 1 << 29, top - 2, top}
	for i, a := range ends {
		for _, b := range ends[i:] {
			wantBack(t, list(a, b))
			for _, d := range ends {
				if d < a-1 {
					wantBack(t, list(a, b, d, d))
					wantBack(t, list(a, b, 0, d))
				}
			}
		}
	}
}

func wantBack(t *testing.T, l []api.Range) {
	t.Helper()
	b, err := ack.Print(l)
	if err != nil {
		t.Errorf("Print(%v): %v", l, err)
	}
	wantParse(t, b, l, api.OK)
}

func TestA1JustSuchBytesAreRead(t *testing.T) {
	// Of all bytes below 5, up to seven, just those of the ranges of numbers below 5 are read.
	printed := map[string]bool{}
	for bits := 1; bits < 1<<5; bits++ {
		b, _ := ack.Print(ofBits(bits))
		printed[b] = true
	}
	var walk func(b string)
	walk = func(b string) {
		l, err := ack.Parse(b)
		if (err == nil) != printed[b] {
			t.Errorf("Parse(%q) = %v, %v; printed: %v", b, l, err, printed[b])
		}
		if err == nil && ranges.Check(l) != nil {
			t.Errorf("Parse(%q) = %v, which Check refuses", b, l)
		}
		for c := byte(0); c < 5 && len(b) < 7; c++ {
			walk(b + string([]byte{c}))
		}
	}
	walk("")
	if len(printed) != 31 {
		t.Errorf("%d texts of 31 sets", len(printed))
	}
}

func TestA1NothingIsKept(t *testing.T) {
	l := list(20, 21, 5, 8)
	b, _ := ack.Print(l)
	first, _ := ack.Parse(b)
	second, _ := ack.Parse(b)
	scribble(l)
	scribble(first)
	if b != "\x15\x01\x01\x0a\x03" || !slices.Equal(second, list(20, 21, 5, 8)) {
		t.Errorf("what came out changed: %q, %v", b, second)
	}
	wantPrint(t, list(20, 21, 5, 8), "\x15\x01\x01\x0a\x03", api.OK)
}
