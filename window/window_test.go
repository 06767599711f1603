package window_test

import (
	"math"
	"math/big"
	"slices"
	"testing"

	"wanderwire/api"
	"wanderwire/plain"
	"wanderwire/window"
)

// The numbers as the document has them, so that a change of one of them shows.
const (
	least = 400
	top   = 100_000
	most  = 200
)

// What Size and Slow, Way, and n can not be; some would be right if only their last bits were looked at.
var (
	noSizes   = []int{least - 1, least - 2, most, 1, 0, -1, -least, -top, math.MinInt, math.MinInt + 1, top + 1, top + 2, 1 << 32, 1<<32 + 500, math.MaxInt - 1, math.MaxInt}
	noWays    = []int{-1, -2, -least, -top, math.MinInt, math.MinInt + 1, top + 1, top + 2, 1 << 32, 1<<32 + 5, math.MaxInt - 1, math.MaxInt}
	noPackets = []int{0, -1, -2, -most, math.MinInt, math.MinInt + 1, most + 1, most + 2, 256 + 5, top, top + 1, 1 << 32, 1<<32 + 5, math.MaxInt - 1, math.MaxInt}
)

// of has a window, of how great it is, from where on it grows slowly, and what is under way.
func of(size, slow, way int) api.Window { return api.Window{Size: size, Slow: slow, Way: way} }

func wantCheck(t *testing.T, w api.Window, want api.Errno) {
	t.Helper()
	if err := window.Check(w); plain.Told(err) != want {
		t.Errorf("Check(%v) = %v; want %v", w, err, want)
	}
}

// wantCall twice, as nothing is kept from the first call.
func wantCall(t *testing.T, name string, call func(api.Window, int) (api.Window, error), w api.Window, n int, want api.Window, wantErr api.Errno) {
	t.Helper()
	for range 2 {
		got, err := call(w, n)
		if got != want || plain.Told(err) != wantErr {
			t.Errorf("%s(%v, %d) = %v, %v; want %v, %v", name, w, n, got, err, want, wantErr)
		}
	}
}

func wantSend(t *testing.T, w api.Window, n int, want api.Window) {
	t.Helper()
	wantCall(t, "Send", window.Send, w, n, want, api.OK)
}

func wantCame(t *testing.T, w api.Window, n int, want api.Window) {
	t.Helper()
	wantCall(t, "Came", window.Came, w, n, want, api.OK)
}

func wantLost(t *testing.T, w api.Window, n int, want api.Window) {
	t.Helper()
	wantCall(t, "Lost", window.Lost, w, n, want, api.OK)
}

// wantNoSend: Send tells an error, and gives a window of zeros.
func wantNoSend(t *testing.T, w api.Window, n int, want api.Errno) {
	t.Helper()
	wantCall(t, "Send", window.Send, w, n, api.Window{}, want)
}

// wantNotUnderWay: Came and Lost tell the same error, and give windows of zeros.
func wantNotUnderWay(t *testing.T, w api.Window, n int, want api.Errno) {
	t.Helper()
	wantCall(t, "Came", window.Came, w, n, api.Window{}, want)
	wantCall(t, "Lost", window.Lost, w, n, api.Window{}, want)
}

// wantWrong: every call tells ErrRange of a window, whatever else is wrong.
func wantWrong(t *testing.T, w api.Window) {
	t.Helper()
	wantCheck(t, w, api.ErrRange)
	for _, n := range append([]int{1, 5, most}, noPackets...) {
		wantNoSend(t, w, n, api.ErrRange)
		wantNotUnderWay(t, w, n, api.ErrRange)
	}
}

func TestW1Least(t *testing.T) {
	for range 2 {
		if got := window.Least(); got != least {
			t.Errorf("Least() = %d; want %d", got, least)
		}
	}
	if least != 2*api.MaxPacket || top != api.MaxTime || most != api.MaxPacket {
		t.Error("these tests have other numbers than api")
	}
}

func TestW1Check(t *testing.T) {
	for _, size := range []int{least, least + 1, 999, top - 1, top} {
		for _, slow := range []int{least, least + 1, 999, top - 1, top} {
			// What is under way can be more than Size, as Lost makes a window less.
			for _, way := range []int{0, 1, least - 1, least, least + 1, 999, 1000, top - 1, top} {
				wantCheck(t, of(size, slow, way), api.OK)
			}
		}
	}
}

func TestW1CheckRange(t *testing.T) {
	for _, n := range noSizes {
		for _, way := range []int{0, 300, 5000, top} {
			wantWrong(t, of(n, 700, way))
			wantWrong(t, of(n, least, way))
			wantWrong(t, of(n, top, way))
			wantWrong(t, of(700, n, way))
			wantWrong(t, of(least, n, way))
			wantWrong(t, of(top, n, way))
			wantWrong(t, of(n, n, way))
		}
	}
	for _, n := range noWays {
		for _, size := range []int{least, 700, top} {
			wantWrong(t, of(size, 700, n))
			wantWrong(t, of(700, size, n))
			wantWrong(t, of(size, size, n))
		}
	}
	wantWrong(t, api.Window{})
	for _, a := range []int{math.MinInt, math.MaxInt} {
		for _, b := range []int{math.MinInt, math.MaxInt} {
			for _, c := range []int{math.MinInt, math.MaxInt} {
				wantWrong(t, of(a, b, c))
			}
		}
	}
}

func TestW1WrongPackets(t *testing.T) {
	// With nothing under way, all of it, and more than may be: n is told ahead of ErrFlow and ErrShape.
	for _, w := range []api.Window{
		of(700, 900, 0), of(700, 900, 300), of(700, 900, 700), of(700, 900, 800), of(900, 700, 0), of(900, 700, 900),
		of(least, least, 0), of(least, least, least), of(least, least, top), of(top, top, 0), of(top, top, top), of(top, least, top),
	} {
		for _, n := range noPackets {
			wantNoSend(t, w, n, api.ErrRange)
			wantNotUnderWay(t, w, n, api.ErrRange)
		}
	}
}

func TestW1Send(t *testing.T) {
	wantSend(t, of(511, 1388, 102), 139, of(511, 1388, 241))
	wantSend(t, of(1033, 426, 712), 73, of(1033, 426, 785))
	wantSend(t, of(least, least, 0), 1, of(least, least, 1))
	wantSend(t, of(least, top, 0), most, of(least, top, most))
	wantSend(t, of(top, least, 0), most, of(top, least, most))
	// Way is just Size then.
	wantSend(t, of(least, 900, least-1), 1, of(least, 900, least))
	wantSend(t, of(least, 900, most), most, of(least, 900, least))
	wantSend(t, of(701, 900, 600), 101, of(701, 900, 701))
	wantSend(t, of(701, 500, 501), most, of(701, 500, 701))
	wantSend(t, of(top, top, top-1), 1, of(top, top, top))
	wantSend(t, of(top, least, top-most), most, of(top, least, top))
}

func TestW1SendFlow(t *testing.T) {
	// Way would be one more than Size.
	wantNoSend(t, of(least, 900, least), 1, api.ErrFlow)
	wantNoSend(t, of(least, 900, most+1), most, api.ErrFlow)
	wantNoSend(t, of(700, 900, 600), 101, api.ErrFlow)
	wantNoSend(t, of(701, 500, 502), most, api.ErrFlow)
	wantNoSend(t, of(top, top, top), 1, api.ErrFlow)
	wantNoSend(t, of(top, least, top-most+1), most, api.ErrFlow)
	// It is so already.
	wantNoSend(t, of(700, 900, 701), 1, api.ErrFlow)
	wantNoSend(t, of(700, 900, 5000), most, api.ErrFlow)
	wantNoSend(t, of(least, least, top), 1, api.ErrFlow)
	wantNoSend(t, of(least, top, top), most, api.ErrFlow)
	wantNoSend(t, of(top, top, top), most, api.ErrFlow)
}

func TestW1CameFast(t *testing.T) {
	wantCame(t, of(420, 618, 247), 151, of(571, 618, 96))
	wantCame(t, of(least, top, 1), 1, of(least+1, top, 0))
	wantCame(t, of(least, top, most), most, of(least+most, top, 0))
	// Just below Slow, and beyond it by one step.
	wantCame(t, of(899, 900, 300), 1, of(900, 900, 299))
	wantCame(t, of(899, 900, 300), most, of(899+most, 900, 100))
	wantCame(t, of(899, 900, 300), 101, of(1000, 900, 199))
	wantCame(t, of(least, least+1, 300), 150, of(least+150, least+1, 150))
	// More under way than Size.
	wantCame(t, of(500, 900, 2000), 150, of(650, 900, 1850))
	wantCame(t, of(least, top, top), most, of(least+most, top, top-most))
	// Just to MaxTime, one less, and what would go above it.
	wantCame(t, of(top-50, top, 300), 50, of(top, top, 250))
	wantCame(t, of(top-50, top, 300), 49, of(top-1, top, 251))
	wantCame(t, of(top-50, top, 300), 51, of(top, top, 249))
	wantCame(t, of(top-most, top, top), most, of(top, top, top-most))
	wantCame(t, of(top-most, top-1, top), most, of(top, top-1, top-most))
	wantCame(t, of(top-most+1, top, top), most, of(top, top, top-most))
	wantCame(t, of(top-1, top, 300), 1, of(top, top, 299))
	wantCame(t, of(top-1, top, 300), most, of(top, top, 100))
}

func TestW1CameSlowly(t *testing.T) {
	wantCame(t, of(1033, 426, 712), 73, of(1047, 426, 639))
	// Just Slow, and above it.
	wantCame(t, of(900, 900, 300), 90, of(920, 900, 210))
	wantCame(t, of(901, 900, 300), 90, of(920, 900, 210))
	wantCame(t, of(least, least, 300), most, of(500, least, 100))
	wantCame(t, of(least+1, least, 300), most, of(500, least, 100))
	// By 500 goes 100 times 200, by those beside it not: 40, a bit more, and a bit less.
	wantCame(t, of(500, 450, 300), 100, of(540, 450, 200))
	wantCame(t, of(499, 450, 300), 100, of(539, 450, 200))
	wantCame(t, of(501, 450, 300), 100, of(540, 450, 200))
	wantCame(t, of(700, 450, 300), 7, of(702, 450, 293))
	wantCame(t, of(701, 450, 300), 7, of(702, 450, 293))
	// Just 1, and less than 1.
	wantCame(t, of(least, least, 300), 2, of(least+1, least, 298))
	wantCame(t, of(least, least, 300), 1, of(least, least, 299))
	wantCame(t, of(least+1, least, 300), 2, of(least+1, least, 298))
	wantCame(t, of(40_000, 900, 300), most, of(40_001, 900, 100))
	wantCame(t, of(40_001, 900, 300), most, of(40_001, 900, 100))
	wantCame(t, of(40_000, 900, 300), most-1, of(40_000, 900, 101))
	wantCame(t, of(20_000, 900, 300), most, of(20_002, 900, 100))
	wantCame(t, of(20_001, 900, 300), most, of(20_002, 900, 100))
	// More under way than Size.
	wantCame(t, of(500, 500, 2000), 100, of(540, 500, 1900))
	wantCame(t, of(least, least, top), most, of(500, least, top-most))
	// So near to MaxTime it grows no more.
	wantCame(t, of(top, least, most), most, of(top, least, 0))
	wantCame(t, of(top, top, top), most, of(top, top, top-most))
	wantCame(t, of(top, top, top), 1, of(top, top, top-1))
	wantCame(t, of(top-1, top-1, top), most, of(top-1, top-1, top-most))
	wantCame(t, of(top-1, least, 1), 1, of(top-1, least, 0))
}

func TestW1Lost(t *testing.T) {
	wantLost(t, of(1033, 426, 712), 73, of(516, 516, 639))
	wantLost(t, of(3200, 1414, 3043), 20, of(1600, 1600, 3023))
	// Slow is as Size, whether it was below, the same, or above.
	wantLost(t, of(2000, least, 300), 100, of(1000, 1000, 200))
	wantLost(t, of(2000, 1000, 300), 100, of(1000, 1000, 200))
	wantLost(t, of(2000, 2000, 300), 100, of(1000, 1000, 200))
	wantLost(t, of(2000, top, 300), 100, of(1000, 1000, 200))
	// Even, and odd.
	wantLost(t, of(1000, 700, 300), 1, of(500, 500, 299))
	wantLost(t, of(1001, 700, 300), 1, of(500, 500, 299))
	wantLost(t, of(1002, 700, 300), 1, of(501, 501, 299))
	wantLost(t, of(top, top, top), most, of(50_000, 50_000, top-most))
	wantLost(t, of(top-1, least, top), 1, of(49_999, 49_999, top-1))
	// The half is just Least, one more, and below it.
	wantLost(t, of(802, 900, 300), 100, of(401, 401, 200))
	wantLost(t, of(803, 900, 300), 100, of(401, 401, 200))
	wantLost(t, of(801, 900, 300), 100, of(least, least, 200))
	wantLost(t, of(800, 900, 300), 100, of(least, least, 200))
	wantLost(t, of(799, 900, 300), 100, of(least, least, 200))
	wantLost(t, of(798, 900, 300), 100, of(least, least, 200))
	wantLost(t, of(least+1, 900, 300), 100, of(least, least, 200))
	wantLost(t, of(least, top, most), most, of(least, least, 0))
	wantLost(t, of(least, least, 1), 1, of(least, least, 0))
	// More under way than Size, and than the half of it.
	wantLost(t, of(1000, 900, 2000), 100, of(500, 500, 1900))
	wantLost(t, of(least, least, top), most, of(least, least, top-most))
	wantLost(t, of(1000, 900, 1000), most, of(500, 500, 800))
}

func TestW1NotSoMuchUnderWay(t *testing.T) {
	for _, size := range []int{least, 701, top} {
		for _, slow := range []int{least, 701, top} {
			for _, n := range []int{1, 2, 77, most - 1, most} {
				wantNotUnderWay(t, of(size, slow, n-1), n, api.ErrShape)
				wantNotUnderWay(t, of(size, slow, 0), n, api.ErrShape)
			}
		}
	}
	// Just as much under way leaves nothing.
	for _, n := range []int{1, 2, 77, most - 1, most} {
		wantCame(t, of(900, 1000, n), n, of(900+n, 1000, 0))
		wantCame(t, of(40_001, 1000, n), n, of(40_001, 1000, 0))
		wantLost(t, of(900, 1000, n), n, of(450, 450, 0))
	}
}

// isFrom: whether a number is from lo to hi.
func isFrom(lo, n, hi int) bool { return n >= lo && n <= hi }

// modelErr of a window and of n: the same for all three calls.
func modelErr(w api.Window, n int) api.Errno {
	if !isFrom(400, w.Size, 100_000) || !isFrom(400, w.Slow, 100_000) || !isFrom(0, w.Way, 100_000) || !isFrom(1, n, 200) {
		return api.ErrRange
	}
	return api.OK
}

func modelSend(w api.Window, n int) (api.Window, api.Errno) {
	if e := modelErr(w, n); e != api.OK {
		return api.Window{}, e
	}
	if w.Size-w.Way < n {
		return api.Window{}, api.ErrFlow
	}
	return of(w.Size, w.Slow, w.Way+n), api.OK
}

// modelCame counts by numbers of any length.
func modelCame(w api.Window, n int) (api.Window, api.Errno) {
	if e := modelErr(w, n); e != api.OK {
		return api.Window{}, e
	}
	if n > w.Way {
		return api.Window{}, api.ErrShape
	}
	more := big.NewInt(int64(n))
	if w.Slow <= w.Size {
		more.Mul(more, big.NewInt(200))
		more.Quo(more, big.NewInt(int64(w.Size)))
	}
	more.Add(more, big.NewInt(int64(w.Size)))
	if more.Cmp(big.NewInt(100_000)) > 0 {
		more.SetInt64(100_000)
	}
	return of(int(more.Int64()), w.Slow, w.Way-n), api.OK
}

func modelLost(w api.Window, n int) (api.Window, api.Errno) {
	if e := modelErr(w, n); e != api.OK {
		return api.Window{}, e
	}
	if n > w.Way {
		return api.Window{}, api.ErrShape
	}
	half := (w.Size - w.Size%2) / 2
	if half < 400 {
		half = 400
	}
	return of(half, half, w.Way-n), api.OK
}

func wantAsModel(t *testing.T, w api.Window, n int) {
	t.Helper()
	wantCheck(t, w, modelErr(w, 1))
	want, e := modelSend(w, n)
	wantCall(t, "Send", window.Send, w, n, want, e)
	want, e = modelCame(w, n)
	wantCall(t, "Came", window.Came, w, n, want, e)
	want, e = modelLost(w, n)
	wantCall(t, "Lost", window.Lost, w, n, want, e)
}

// TestW1AtAllEdges goes over every window of edges, right and wrong, with every n of edges.
func TestW1AtAllEdges(t *testing.T) {
	ends := []int{math.MinInt, -1, top + 1, math.MaxInt}
	sizes := append([]int{least - 1, least, least + 1, 799, 800, 801, 40_000, 40_001, top - most, top - 1, top}, ends...)
	ways := append([]int{0, 1, most - 1, most, least - 1, least, 800, top - 1, top}, ends...)
	packets := append([]int{0, 1, 2, 3, most - 1, most, most + 1}, ends...)
	for _, size := range sizes {
		for _, slow := range sizes {
			for _, way := range ways {
				for _, n := range packets {
					wantAsModel(t, of(size, slow, way), n)
				}
			}
		}
		if t.Failed() {
			return
		}
	}
}

// TestW1EverySize has each Size that can be, growing slowly, growing fast, and halved.
func TestW1EverySize(t *testing.T) {
	for size := least; size <= top; size++ {
		for _, n := range []int{1, 97, most} {
			for _, slow := range []int{least, size, min(size+1, top)} {
				wantAsModel(t, of(size, slow, size-97), n)
			}
		}
		if t.Failed() {
			return
		}
	}
}

// draw gives numbers below n, the same ones at each run.
type draw int

func (d *draw) below(n int) int {
	*d = (*d*1103515245 + 12345) & (1<<31 - 1)
	return int(*d>>12) % n
}

// TestW1AWalk sends packets, which come or are lost: never more is sent than Size lets, more when it comes, half when it is lost.
func TestW1AWalk(t *testing.T) {
	var d draw = 12
	w := of(window.Least(), top, 0)
	var flight []int
	full, fast, slow, lost := 0, 0, 0, 0
	for range 200_000 {
		n := 1 + d.below(most)
		next, err := window.Send(w, n)
		for err == nil {
			if next.Way != w.Way+n || next.Way > next.Size || next.Size != w.Size || next.Slow != w.Slow {
				t.Fatalf("Send(%v, %d) = %v", w, n, next)
			}
			w, flight = next, append(flight, n)
			n = 1 + d.below(most)
			next, err = window.Send(w, n)
		}
		if plain.Told(err) != api.ErrFlow || w.Way+n <= w.Size {
			t.Fatalf("Send(%v, %d) = %v, %v", w, n, next, err)
		}
		full++
		i := d.below(len(flight))
		n = flight[i]
		flight = slices.Delete(flight, i, i+1)
		if d.below(400) == 0 {
			w = lose(t, w, n)
			lost++
			// A window that became half as great lets nothing be sent until enough of it is gone.
			for w.Way > w.Size {
				n, flight = flight[0], flight[1:]
				w = come(t, w, n)
			}
			continue
		}
		if w.Size < w.Slow {
			fast++
		} else {
			slow++
		}
		w = come(t, w, n)
	}
	for i, n := range []int{full, fast, slow, lost} {
		if n < 100 {
			t.Errorf("only %d of the kind %d came", n, i)
		}
	}
}

// come and lose: as the model has it, and a window that is right.
func come(t *testing.T, w api.Window, n int) api.Window {
	t.Helper()
	got, err := window.Came(w, n)
	if want, _ := modelCame(w, n); err != nil || got != want || got.Size < w.Size || window.Check(got) != nil {
		t.Fatalf("Came(%v, %d) = %v, %v; want %v", w, n, got, err, want)
	}
	return got
}

func lose(t *testing.T, w api.Window, n int) api.Window {
	t.Helper()
	got, err := window.Lost(w, n)
	if want, _ := modelLost(w, n); err != nil || got != want || got.Size > w.Size || window.Check(got) != nil {
		t.Fatalf("Lost(%v, %d) = %v, %v; want %v", w, n, got, err, want)
	}
	return got
}
