package end

import (
	"testing"

	"wanderwire/api"
	"wanderwire/packet"
)

// As three pieces hold all that can be written, what is told to be there has no gap, whatever is called. So the tests of this file lay gaps, and great numbers, by hand.

// laid: an End that wrote 60 bytes, of which it was told those of the places.
func laid(t *testing.T, told ...int) (*End, string) {
	t.Helper()
	e, err := New(api.MaxWindow)
	if err != nil {
		t.Fatal(err)
	}
	b := make([]byte, api.MaxStream)
	for i := range b {
		b[i] = byte(200 - i)
	}
	if err := e.Write(string(b)); err != nil {
		t.Fatal(err)
	}
	for _, place := range told {
		e.told[place] = true
	}
	return e, string(b)
}

// from one number up to another one.
func from(a, b int) []int {
	var l []int
	for n := a; n < b; n++ {
		l = append(l, n)
	}
	return l
}

// wantPieces: the ends of the pieces are told two by two.
func wantPieces(t *testing.T, e *End, text string, ends ...int) {
	t.Helper()
	l := []api.Frame{{Kind: api.Credit, Nums: []int{api.MaxWindow}}}
	for i := 0; i < len(ends); i += 2 {
		l = append(l, api.Frame{Kind: api.Stream, Nums: []int{ends[i]}, Data: text[ends[i]:ends[i+1]]})
	}
	want, err := packet.Print(e.made, e.known, l)
	if err != nil {
		t.Fatal(err)
	}
	if got := e.Make(); got != want {
		t.Errorf("Make() = %q; want %q", got, want)
	}
}

// TestE1MakeBetween: no piece has a gap, and there are no more than three of them, however short they are.
func TestE1MakeBetween(t *testing.T) {
	for _, c := range []struct{ told, ends []int }{
		{nil, []int{0, 20, 20, 40, 40, 60}},
		{[]int{0}, []int{1, 21, 21, 41, 41, 60}},
		{[]int{5}, []int{0, 5, 6, 26, 26, 46}},
		{[]int{19}, []int{0, 19, 20, 40, 40, 60}},
		{[]int{20}, []int{0, 20, 21, 41, 41, 60}},
		{[]int{59}, []int{0, 20, 20, 40, 40, 59}},
		{[]int{1, 3, 5}, []int{0, 1, 2, 3, 4, 5}},
		{[]int{0, 2, 4, 6, 8}, []int{1, 2, 3, 4, 5, 6}},
		{from(10, 50), []int{0, 10, 50, 60}},
		{from(21, 60), []int{0, 20, 20, 21}},
		{append(from(0, 30), from(31, 58)...), []int{30, 31, 58, 60}},
		{from(0, 59), []int{59, 60}},
		{from(0, 60), nil},
	} {
		e, text := laid(t, c.told...)
		wantPieces(t, e, text, c.ends...)
		wantPieces(t, e, text, c.ends...)
	}
}

// TestE1MakeBetweenLet: nor does a piece go beyond what is let, or what is written, behind a gap.
func TestE1MakeBetweenLet(t *testing.T) {
	e, text := laid(t, append(from(3, 6), 9, 11)...)
	e.let = 13
	wantPieces(t, e, text, 0, 3, 6, 9, 10, 11)
	e.let = 11
	wantPieces(t, e, text, 0, 3, 6, 9, 10, 11)
	e.let = 10
	wantPieces(t, e, text, 0, 3, 6, 9)
	e.let = 8
	wantPieces(t, e, text, 0, 3, 6, 8)
	e.let = 5
	wantPieces(t, e, text, 0, 3)
	e.let = api.MaxNumber
	e.written = 7
	wantPieces(t, e, text, 0, 3, 6, 7)
}

// TestE2AckBetween: what an Ack tells is what its own packets had, also if those between had other bytes.
func TestE2AckBetween(t *testing.T) {
	build := func() (*End, string) {
		e, text := laid(t, append(from(2, 50), 52, 54)...)
		wantPieces(t, e, text, 0, 2, 50, 52, 53, 54)
		e.told[1] = true
		wantPieces(t, e, text, 0, 1, 50, 52, 53, 54)
		e.told[0] = true
		wantPieces(t, e, text, 50, 52, 53, 54, 55, 60)
		e.told[0], e.told[1] = false, false
		return e, text
	}
	for _, c := range []struct{ nums, ends []int }{
		{[]int{0, 0}, []int{55, 60}},
		{[]int{1, 1}, []int{1, 2, 55, 60}},
		{[]int{2, 2}, []int{0, 2}},
		{[]int{2, 1}, []int{1, 2}},
		{[]int{1, 0}, []int{55, 60}},
		{[]int{2, 2, 0, 0}, nil},
		{[]int{2, 0}, nil},
	} {
		e, text := build()
		if err := e.takeFrame(api.Frame{Kind: api.Ack, Nums: c.nums}); err != nil {
			t.Fatal(err)
		}
		wantPieces(t, e, text, c.ends...)
	}
}

// TestE1MakeLast: behind the greatest number there is none is made, and nothing is done.
func TestE1MakeLast(t *testing.T) {
	e, text := laid(t, from(0, 58)...)
	e.made, e.known = api.MaxNumber, api.MaxNumber-1
	wantPieces(t, e, text, 58, 60)
	was := *e
	for range 3 {
		if got := e.Make(); got != "" {
			t.Errorf("Make() = %q", got)
		}
	}
	if e.made != was.made || e.known != was.known || len(e.loads) != len(was.loads) {
		t.Errorf("%d were made, %d is known", e.made, e.known)
	}
	if err := e.Take("\x01\x00\x02\xbf\xff\xff\xff\x00\x00"); err != nil {
		t.Error(err)
	}
	if e.known != api.MaxNumber || !e.told[59] || e.Make() != "" {
		t.Errorf("%d is known", e.known)
	}
}

// TestE1Kept: what is kept of packets does not grow with how many there are.
func TestE1Kept(t *testing.T) {
	e, _ := laid(t)
	for range 5000 {
		e.Make()
	}
	if len(e.loads) != 1 {
		t.Errorf("of packets of one load %d are kept", len(e.loads))
	}
}
