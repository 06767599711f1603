package varint_test

import (
	"math"
	"slices"
	"strings"
	"testing"

	"wanderwire/api"
	"wanderwire/plain"
	"wanderwire/varint"
)

// forms: numbers at the edges of each form and within it, and their bytes.
var forms = []struct {
	n int
	b string
}{
	{0, "\x00"},
	{1, "\x01"},
	{37, "\x25"},
	{62, "\x3e"},
	{63, "\x3f"},
	{64, "\x40\x40"},
	{65, "\x40\x41"},
	{255, "\x40\xff"},
	{256, "\x41\x00"},
	{15293, "\x7b\xbd"},
	{16382, "\x7f\xfe"},
	{16383, "\x7f\xff"},
	{16384, "\x80\x00\x40\x00"},
	{16385, "\x80\x00\x40\x01"},
	{65536, "\x80\x01\x00\x00"},
	{494878333, "\x9d\x7f\x3e\x7d"},
	{api.MaxNumber - 1, "\xbf\xff\xff\xfe"},
	{api.MaxNumber, "\xbf\xff\xff\xff"},
}

// outside: numbers that are none of V1; some would be right if only their last bits were looked at.
var outside = []int{-1, -2, -64, -16384, math.MinInt, math.MinInt + 1, api.MaxNumber + 1, api.MaxNumber + 2, 1 << 31, 1<<32 + 5, math.MaxInt}

func wantLong(t *testing.T, n, want int, wantErr api.Errno) {
	t.Helper()
	got, err := varint.Long(n)
	if got != want || plain.Told(err) != wantErr {
		t.Errorf("Long(%d) = %d, %v; want %d, %v", n, got, err, want, wantErr)
	}
}

func wantPut(t *testing.T, n int, want string, wantErr api.Errno) {
	t.Helper()
	got, err := varint.Put(n)
	if got != want || plain.Told(err) != wantErr {
		t.Errorf("Put(%d) = %q, %v; want %q, %v", n, got, err, want, wantErr)
	}
}

func wantGet(t *testing.T, b string, want, wantLong int, wantErr api.Errno) {
	t.Helper()
	got, long, err := varint.Get(b)
	if got != want || long != wantLong || plain.Told(err) != wantErr {
		t.Errorf("Get(%q) = %d, %d, %v; want %d, %d, %v", b, got, long, err, want, wantLong, wantErr)
	}
}

func wantAll(t *testing.T, l []int, want string, wantErr api.Errno) {
	t.Helper()
	got, err := varint.All(l)
	if got != want || plain.Told(err) != wantErr {
		t.Errorf("All(%d) = %q, %v; want %q, %v", l, got, err, want, wantErr)
	}
}

func TestV1Forms(t *testing.T) {
	for _, f := range forms {
		wantLong(t, f.n, len(f.b), api.OK)
		wantPut(t, f.n, f.b, api.OK)
		wantGet(t, f.b, f.n, len(f.b), api.OK)
		wantAll(t, []int{f.n}, f.b, api.OK)
	}
}

func TestV1OutsideIsErrRange(t *testing.T) {
	for _, n := range outside {
		wantLong(t, n, 0, api.ErrRange)
		wantPut(t, n, "", api.ErrRange)
		wantAll(t, []int{n}, "", api.ErrRange)
	}
}

func TestV1GetLeavesWhatIsBehind(t *testing.T) {
	for _, f := range forms {
		for _, behind := range []string{"\x00", "\xff", "\x40\x40", "\xc0\x00\x00\x00", strings.Repeat("q", 5000)} {
			wantGet(t, f.b+behind, f.n, len(f.b), api.OK)
		}
	}
}

func TestV1GetTooFew(t *testing.T) {
	for _, f := range forms {
		for k := range len(f.b) {
			wantGet(t, f.b[:k], 0, 0, api.ErrSyntax)
		}
	}
}

func TestV1GetBitsThree(t *testing.T) {
	for first := 0xc0; first <= 0xff; first++ {
		for _, behind := range []string{"", "\x01", "\xff\xff\xff", "\x40\x41\x42\x43\x44\x45\x46\x47"} {
			wantGet(t, string([]byte{byte(first)})+behind, 0, 0, api.ErrSyntax)
		}
	}
}

func TestV1GetShorterWay(t *testing.T) {
	longer := []string{
		"\x40\x00", "\x40\x01", "\x40\x3f",
		"\x80\x00\x00\x00", "\x80\x00\x00\x3f", "\x80\x00\x00\x40", "\x80\x00\x3f\xfe", "\x80\x00\x3f\xff",
	}
	for _, b := range longer {
		wantGet(t, b, 0, 0, api.ErrSyntax)
		wantGet(t, b+"\x01\x02", 0, 0, api.ErrSyntax)
	}
}

// byHand tells a number's bytes by V1's words.
func byHand(n int) string {
	switch {
	case n < 64:
		return string([]byte{byte(n)})
	case n < 16384:
		return string([]byte{0x40 | byte(n>>8), byte(n)})
	}
	return string([]byte{0x80 | byte(n>>24), byte(n >> 16), byte(n >> 8), byte(n)})
}

func TestV1NumbersComeBack(t *testing.T) {
	check := func(n int) {
		b := byHand(n)
		wantLong(t, n, len(b), api.OK)
		wantPut(t, n, b, api.OK)
		wantGet(t, b+"\x9a", n, len(b), api.OK)
	}
	for n := range 20000 {
		check(n)
		check(api.MaxNumber - n)
	}
	for n := 0; n <= api.MaxNumber; n += 9973 {
		check(n)
	}
}

// TestV1GetTakesJustWhatPutGives goes over all first two bytes: what Get takes is what Put gives, and nothing else.
func TestV1GetTakesJustWhatPutGives(t *testing.T) {
	for first := range 256 {
		for second := range 256 {
			b := string([]byte{byte(first), byte(second), 0x12, 0x34})
			n, long, err := varint.Get(b)
			shorterWay := first == 0x40 && second < 64 || first == 0x80 && second == 0
			if first >= 0xc0 || shorterWay {
				wantGet(t, b, 0, 0, api.ErrSyntax)
				continue
			}
			if err != nil || byHand(n) != b[:long] {
				t.Errorf("Get(%q) = %d, %d, %v; want a number with just these bytes", b, n, long, err)
			}
		}
	}
}

func TestV1AllOneBehindTheOther(t *testing.T) {
	wantAll(t, nil, "", api.OK)
	wantAll(t, []int{}, "", api.OK)
	wantAll(t, []int{0, 0, 0}, "\x00\x00\x00", api.OK)
	wantAll(t, []int{63, 64, 16383, 16384, api.MaxNumber, 5}, "\x3f\x40\x40\x7f\xff\x80\x00\x40\x00\xbf\xff\xff\xff\x05", api.OK)
}

func TestV1AllIsReadBack(t *testing.T) {
	var l []int
	for _, f := range forms {
		l = append(l, f.n)
	}
	b, err := varint.All(l)
	if err != nil {
		t.Fatal(err)
	}
	for _, n := range l {
		got, long, err := varint.Get(b)
		if got != n || err != nil {
			t.Fatalf("Get(%q) = %d, %d, %v; want %d", b, got, long, err, n)
		}
		b = b[long:]
	}
	if b != "" {
		t.Errorf("left over: %q", b)
	}
}

func TestV1AllFull(t *testing.T) {
	most := slices.Repeat([]int{api.MaxNumber}, api.MaxLetters)
	wantAll(t, most, strings.Repeat("\xbf\xff\xff\xff", api.MaxLetters), api.OK)
	wantAll(t, append(slices.Clone(most), 1), "", api.ErrFull)
	wantAll(t, make([]int, 100000), "", api.ErrFull)
	// ErrFull is named ahead of ErrRange.
	wantAll(t, append(slices.Clone(most), -1), "", api.ErrFull)
	wantAll(t, slices.Repeat([]int{-1}, api.MaxLetters+1), "", api.ErrFull)
}

func TestV1AllOneIsOutside(t *testing.T) {
	for _, bad := range outside {
		for _, count := range []int{1, 3, api.MaxLetters} {
			for place := range count {
				l := slices.Repeat([]int{70}, count)
				l[place] = bad
				wantAll(t, l, "", api.ErrRange)
			}
		}
	}
}

func TestV1AllLeavesTheListAlone(t *testing.T) {
	memory := []int{3, 64, 16384, -1, 9}
	was := slices.Clone(memory)
	l := memory[:3]
	// What lies behind the length is no number, so it would be told if it were read.
	wantAll(t, l, "\x03\x40\x40\x80\x00\x40\x00", api.OK)
	wantAll(t, l, "\x03\x40\x40\x80\x00\x40\x00", api.OK)
	wantAll(t, memory, "", api.ErrRange)
	if !slices.Equal(memory, was) {
		t.Errorf("the list is %d, was %d", memory, was)
	}
}
