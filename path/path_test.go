package path_test

import (
	"math"
	"testing"

	"wanderwire/api"
	"wanderwire/path"
	"wanderwire/plain"
)

// top is the most that can come, or be sent, in all; of third just Fold times is top.
const (
	top   = api.MaxNumber
	third = top / api.Fold
	most  = api.MaxPacket
)

// noBytes: what In and Out can not be; some would be right if only their last bits were looked at.
var noBytes = []int{-1, -2, -top, math.MinInt, math.MinInt + 1, top + 1, top + 2, 1<<32 + 5, math.MaxInt - 1, math.MaxInt}

// noPackets: what n can not be.
var noPackets = []int{-1, -2, -most, math.MinInt, math.MinInt + 1, most + 1, most + 2, top, top + 1, 1<<32 + 5, math.MaxInt - 1, math.MaxInt}

// of what came and was sent a path that is not known.
func of(in, out int) api.Path { return api.Path{In: in, Out: out} }

// known: the same, and it is Known.
func known(in, out int) api.Path { return api.Path{In: in, Out: out, Known: true} }

func wantCheck(t *testing.T, p api.Path, want api.Errno) {
	t.Helper()
	if err := path.Check(p); plain.Told(err) != want {
		t.Errorf("Check(%v) = %v; want %v", p, err, want)
	}
}

func wantCame(t *testing.T, p api.Path, n int, want api.Path, wantErr api.Errno) {
	t.Helper()
	got, err := path.Came(p, n)
	if got != want || plain.Told(err) != wantErr {
		t.Errorf("Came(%v, %d) = %v, %v; want %v, %v", p, n, got, err, want, wantErr)
	}
}

func wantSend(t *testing.T, p api.Path, n int, want api.Path, wantErr api.Errno) {
	t.Helper()
	got, err := path.Send(p, n)
	if got != want || plain.Told(err) != wantErr {
		t.Errorf("Send(%v, %d) = %v, %v; want %v, %v", p, n, got, err, want, wantErr)
	}
}

func wantRoom(t *testing.T, p api.Path, want int, wantErr api.Errno) {
	t.Helper()
	got, err := path.Room(p)
	if got != want || plain.Told(err) != wantErr {
		t.Errorf("Room(%v) = %d, %v; want %d, %v", p, got, err, want, wantErr)
	}
}

func wantProve(t *testing.T, p, want api.Path, wantErr api.Errno) {
	t.Helper()
	got, err := path.Prove(p)
	if got != want || plain.Told(err) != wantErr {
		t.Errorf("Prove(%v) = %v, %v; want %v, %v", p, got, err, want, wantErr)
	}
}

// wantWrong: every call tells the same of a path, whatever else is wrong.
func wantWrong(t *testing.T, p api.Path, want api.Errno) {
	t.Helper()
	wantCheck(t, p, want)
	for _, n := range append([]int{0, 1, most}, noPackets...) {
		wantCame(t, p, n, api.Path{}, want)
		wantSend(t, p, n, api.Path{}, want)
	}
	wantRoom(t, p, 0, want)
	wantProve(t, p, api.Path{}, want)
}

func TestP1Check(t *testing.T) {
	for _, p := range []api.Path{
		of(0, 0), of(1, 0), of(1, 3), of(7, 0), of(7, 20), of(7, 21), of(139, 153),
		of(third, top-1), of(third, top), of(third-1, top-3), of(third+1, top), of(top, 0), of(top, top-1), of(top, top),
		known(0, 0), known(0, 1), known(0, top), known(7, 21), known(7, 22), known(7, top), known(third-1, top), known(top, 0), known(top, top),
	} {
		wantCheck(t, p, api.OK)
	}
}

func TestP1CheckFold(t *testing.T) {
	// One more than Fold times In is wrong, on a path that is not known alone.
	for _, in := range []int{0, 1, 2, 7, 66, 67, 1 << 20, third - 1} {
		out := 3 * in
		wantCheck(t, of(in, out), api.OK)
		wantWrong(t, of(in, out+1), api.ErrShape)
		wantWrong(t, of(in, out+2), api.ErrShape)
		wantWrong(t, of(in, top), api.ErrShape)
		wantCheck(t, known(in, out), api.OK)
		wantCheck(t, known(in, out+1), api.OK)
		wantCheck(t, known(in, top), api.OK)
	}
}

func TestP1CheckWrong(t *testing.T) {
	for _, bad := range noBytes {
		for _, right := range []int{0, 1, 100, top} {
			wantWrong(t, of(bad, right), api.ErrRange)
			wantWrong(t, of(right, bad), api.ErrRange)
			wantWrong(t, known(bad, right), api.ErrRange)
			wantWrong(t, known(right, bad), api.ErrRange)
		}
		for _, worse := range noBytes {
			wantWrong(t, of(bad, worse), api.ErrRange)
			wantWrong(t, known(bad, worse), api.ErrRange)
		}
	}
}

func TestP1Came(t *testing.T) {
	wantCame(t, of(0, 0), 0, of(0, 0), api.OK)
	wantCame(t, of(0, 0), 1, of(1, 0), api.OK)
	wantCame(t, of(0, 0), most, of(200, 0), api.OK)
	wantCame(t, of(139, 153), 57, of(196, 153), api.OK)
	// On one that is full, too.
	wantCame(t, of(3, 9), 0, of(3, 9), api.OK)
	wantCame(t, of(3, 9), 1, of(4, 9), api.OK)
	wantCame(t, of(3, 9), most, of(203, 9), api.OK)
	// What came on it does not make it known, nor unknown.
	wantCame(t, known(0, 0), most, known(200, 0), api.OK)
	wantCame(t, known(190, 380), 130, known(320, 380), api.OK)
	wantCame(t, known(0, top), 1, known(1, top), api.OK)
}

func TestP1CameTop(t *testing.T) {
	for _, with := range []func(in, out int) api.Path{of, known} {
		for _, out := range []int{0, 9, top} {
			wantCame(t, with(top-most, out), most, with(top, out), api.OK)
			wantCame(t, with(top-most+1, out), most-1, with(top, out), api.OK)
			wantCame(t, with(top-most+1, out), most, api.Path{}, api.ErrRange)
			wantCame(t, with(top-1, out), 0, with(top-1, out), api.OK)
			wantCame(t, with(top-1, out), 1, with(top, out), api.OK)
			wantCame(t, with(top-1, out), 2, api.Path{}, api.ErrRange)
			wantCame(t, with(top, out), 0, with(top, out), api.OK)
			wantCame(t, with(top, out), 1, api.Path{}, api.ErrRange)
			wantCame(t, with(top, out), most, api.Path{}, api.ErrRange)
		}
	}
}

func TestP1CameWrong(t *testing.T) {
	for _, n := range noPackets {
		for _, p := range []api.Path{of(0, 0), of(1, 3), of(500, 100), of(top, top), known(0, 0), known(500, 100), known(top, top)} {
			wantCame(t, p, n, api.Path{}, api.ErrRange)
		}
	}
}

func TestP1Send(t *testing.T) {
	wantSend(t, of(139, 153), 57, of(139, 210), api.OK)
	wantSend(t, of(180, 428), 25, of(180, 453), api.OK)
	wantSend(t, of(0, 0), 0, of(0, 0), api.OK)
	wantSend(t, of(1000, 0), 0, of(1000, 0), api.OK)
	wantSend(t, of(1000, 0), most, of(1000, 200), api.OK)
	wantSend(t, known(0, 0), 0, known(0, 0), api.OK)
	wantSend(t, known(0, 0), most, known(0, 200), api.OK)
	wantSend(t, known(190, 380), 130, known(190, 510), api.OK)
	wantSend(t, known(3, 9), 139, known(3, 148), api.OK)
}

func TestP1SendFlow(t *testing.T) {
	// Just Fold times In, and one more.
	for _, c := range []struct{ in, out, n int }{
		{0, 0, 0}, {1, 0, 3}, {1, 2, 1}, {1, 3, 0}, {3, 7, 2}, {67, 2, 199}, {82, 220, 26}, {third - 1, top - 3, 0}, {third - 1, top - 5, 2},
	} {
		wantSend(t, of(c.in, c.out), c.n, of(c.in, 3*c.in), api.OK)
		wantSend(t, of(c.in, c.out), c.n+1, api.Path{}, api.ErrFlow)
		wantSend(t, known(c.in, c.out), c.n+1, known(c.in, 3*c.in+1), api.OK)
	}
	wantSend(t, of(0, 0), most, api.Path{}, api.ErrFlow)
	wantSend(t, of(66, 0), most, api.Path{}, api.ErrFlow)
	wantSend(t, of(67, 1), most, of(67, 201), api.OK)
	wantSend(t, of(67, 2), most, api.Path{}, api.ErrFlow)
}

func TestP1SendTop(t *testing.T) {
	// Fold times In is just top at third, and above it at the others: there Out is bound by top alone.
	for _, p := range []api.Path{of(third, 0), of(third+1, 0), of(top, 0), known(0, 0), known(third, 0), known(top, 0)} {
		at := func(out int) api.Path { return api.Path{In: p.In, Out: out, Known: p.Known} }
		wantSend(t, at(top-most), most, at(top), api.OK)
		wantSend(t, at(top-most+1), most-1, at(top), api.OK)
		wantSend(t, at(top-most+1), most, api.Path{}, api.ErrRange)
		wantSend(t, at(top-1), 1, at(top), api.OK)
		wantSend(t, at(top-1), 2, api.Path{}, api.ErrRange)
		wantSend(t, at(top), 0, at(top), api.OK)
		wantSend(t, at(top), 1, api.Path{}, api.ErrRange)
	}
}

func TestP1SendWrong(t *testing.T) {
	for _, n := range noPackets {
		for _, p := range []api.Path{of(0, 0), of(1, 3), of(500, 100), of(top, top), known(0, 0), known(500, 100), known(top, top)} {
			wantSend(t, p, n, api.Path{}, api.ErrRange)
		}
	}
}

func TestP1SendOrder(t *testing.T) {
	// A packet that is too long is told ahead of one that is too much for the path.
	wantSend(t, of(0, 0), most, api.Path{}, api.ErrFlow)
	wantSend(t, of(0, 0), most+1, api.Path{}, api.ErrRange)
	// So is an Out that would be none: both are above Fold times In.
	wantSend(t, of(third-1, top-3), 1, api.Path{}, api.ErrFlow)
	wantSend(t, of(third-1, top-3), 3, api.Path{}, api.ErrFlow)
	wantSend(t, of(third-1, top-3), 4, api.Path{}, api.ErrRange)
	wantSend(t, of(third-1, top-3), most, api.Path{}, api.ErrRange)
}

func TestP1Room(t *testing.T) {
	for _, c := range []struct {
		p    api.Path
		want int
	}{
		// Nothing, less than a packet, just one, and more,
		{of(0, 0), 0}, {of(1, 3), 0}, {of(1, 2), 1}, {of(1, 0), 3}, {of(3, 7), 2}, {of(180, 428), 112},
		{of(66, 0), 198}, {of(67, 2), 199}, {of(67, 1), 200}, {of(67, 0), 200}, {of(139, 153), 200}, {of(1000, 0), 200}, {of(top, 0), 200},
		// known, as much as a packet,
		{known(0, 0), 200}, {known(1, 3), 200}, {known(1, 5000), 200}, {known(top, 0), 200},
		// and near MaxNumber what is left of it, but not known no more than Fold times In.
		{known(0, top-201), 200}, {known(0, top-200), 200}, {known(0, top-199), 199}, {known(0, top-1), 1}, {known(0, top), 0}, {known(top, top), 0},
		{of(third, top-200), 200}, {of(third, top-199), 199}, {of(third, top), 0},
		{of(third-1, top-203), 200}, {of(third-1, top-202), 199}, {of(third-1, top-4), 1}, {of(third-1, top-3), 0},
		{of(third+1, top-199), 199}, {of(third+1, top), 0}, {of(top, top-201), 200}, {of(top, top-199), 199}, {of(top, top-1), 1}, {of(top, top), 0},
	} {
		wantRoom(t, c.p, c.want, api.OK)
	}
}

func TestP1RoomIsWhatMayBeSent(t *testing.T) {
	for _, in := range []int{0, 1, 2, 3, 66, 67, 68, 100, third - 67, third - 1, third, third + 1, top - 1, top} {
		for _, less := range []int{0, 1, 2, 3, 199, 200, 201, 400} {
			for _, p := range []api.Path{of(in, min(3*in, top)-less), known(in, min(3*in, top)-less), known(in, top-less)} {
				if p.Out >= 0 {
					wantJustRoom(t, p)
				}
			}
		}
	}
}

// wantJustRoom: as much as Room tells can be sent, and no more in one packet.
func wantJustRoom(t *testing.T, p api.Path) {
	t.Helper()
	room, err := path.Room(p)
	if err != nil || room < 0 || room > most {
		t.Errorf("Room(%v) = %d, %v; want no error, and a packet", p, room, err)
		return
	}
	wantSend(t, p, room, api.Path{In: p.In, Out: p.Out + room, Known: p.Known}, api.OK)
	if got, err := path.Send(p, room+1); err == nil || got != (api.Path{}) {
		t.Errorf("Send(%v, %d) = %v, %v; want an error: Room is %d", p, room+1, got, err, room)
	}
}

func TestP1Prove(t *testing.T) {
	wantProve(t, of(1, 0), known(1, 0), api.OK)
	wantProve(t, of(1, 3), known(1, 3), api.OK)
	wantProve(t, of(139, 153), known(139, 153), api.OK)
	wantProve(t, of(top, top), known(top, top), api.OK)
	// One that is known already stays so.
	wantProve(t, known(1, 0), known(1, 0), api.OK)
	wantProve(t, known(190, 380), known(190, 380), api.OK)
	wantProve(t, known(1, top), known(1, top), api.OK)
}

func TestP1ProveNone(t *testing.T) {
	wantProve(t, of(0, 0), api.Path{}, api.ErrNone)
	wantProve(t, known(0, 0), api.Path{}, api.ErrNone)
	wantProve(t, known(0, 5), api.Path{}, api.ErrNone)
	wantProve(t, known(0, top), api.Path{}, api.ErrNone)
	// What Check tells comes ahead.
	wantProve(t, of(0, 1), api.Path{}, api.ErrShape)
	wantProve(t, of(0, top+1), api.Path{}, api.ErrRange)
	wantProve(t, known(0, -1), api.Path{}, api.ErrRange)
}

// plainPath: what may be, counted up byte by byte.
type plainPath struct {
	in, out, left int
	known         bool
}

func (m *plainPath) came(n int) {
	for range n {
		m.in++
		m.left += 3
	}
}

// send: whether so many may be; if not, nothing is.
func (m *plainPath) send(n int) bool {
	if !m.known && m.left < n {
		return false
	}
	for range n {
		m.out++
		m.left--
	}
	return true
}

func TestP1InARow(t *testing.T) {
	for seed := range 200 {
		p, m, turn := api.Path{}, plainPath{}, seed*7919+1
		for step := range 60 {
			turn = (turn*1103515245 + 12345) & (1<<31 - 1)
			n, what := turn>>8%201, turn>>20%3
			// Proved in a third of the rows, midway.
			if step == 30 && seed%3 == 0 && m.in > 0 {
				m.known = true
				wantProve(t, p, api.Path{In: m.in, Out: m.out, Known: true}, api.OK)
				p.Known = true
			}
			if what == 0 {
				n /= 3
				m.came(n)
				wantCame(t, p, n, api.Path{In: m.in, Out: m.out, Known: m.known}, api.OK)
			} else if m.send(n) {
				wantSend(t, p, n, api.Path{In: m.in, Out: m.out, Known: m.known}, api.OK)
			} else {
				wantSend(t, p, n, api.Path{}, api.ErrFlow)
				wantRoom(t, p, m.left, api.OK)
			}
			p = api.Path{In: m.in, Out: m.out, Known: m.known}
			wantCheck(t, p, api.OK)
		}
	}
}
