package talk_test

import (
	"math"
	"slices"
	"strconv"
	"strings"
	"testing"

	"wanderwire/api"
	"wanderwire/plain"
	"wanderwire/talk"
)

// The numbers as the document has them, so that a change of one of them shows.
const (
	// full: so many packets may be on their way.
	full = 40
	// most: so many bytes may one write.
	most      = 60
	maxWindow = 1000
	maxRanges = 12
)

// What no Talk has; some would be right if only their last bits were looked at.
var (
	noWindows = []int{0, -1, -2, -maxWindow, -1 << 32, math.MinInt, math.MinInt + 1, maxWindow + 1, maxWindow + 2, 1 << 16, 1 << 32, 1<<32 + 5, math.MaxInt - 1, math.MaxInt}
	noOnes    = []int{-1, -2, -256, math.MinInt, math.MinInt + 1, 2, 3, full, 256, 257, 1 << 32, 1<<32 + 1, math.MaxInt - 1, math.MaxInt}
	noPlaces  = []int{-1, -2, -full, -256, math.MinInt, math.MinInt + 1, full, full + 1, 256, 257, 1 << 32, 1<<32 + 1, math.MaxInt - 1, math.MaxInt}
	noCounts  = []int{-1, -2, -most, -256, -256 + 5, -1 << 32, math.MinInt, math.MinInt + 1}
)

// windows: the edges, and those about the bounds of a piece and of a stream.
var windows = []int{1, 2, 3, 7, 19, 20, 21, 40, 41, 59, 60, 61, maxWindow - 1, maxWindow}

// texts of 0 and of 1, as long as can be: no two bytes of one are the same, at no place are they the same, and 0 and 255 are among them.
var texts = func() (l [2]string) {
	var a, b [most]byte
	for i := range most {
		a[i], b[i] = byte(255-4*i), byte(1+4*i)
	}
	a[most-1] = 0
	return [2]string{string(a[:]), string(b[:])}
}()

// fresh makes a Talk.
func fresh(t *testing.T, window int) *talk.Talk {
	t.Helper()
	k, err := talk.New(window)
	if k == nil || err != nil {
		t.Fatalf("New(%d) = %v, %v", window, k, err)
	}
	return k
}

// wrote makes a Talk in which so much of both texts was written.
func wrote(t *testing.T, window, by0, by1 int) *talk.Talk {
	t.Helper()
	k := fresh(t, window)
	wantWrite(t, k, 0, texts[0][:by0], api.OK)
	wantWrite(t, k, 1, texts[1][:by1], api.OK)
	return k
}

func wantWrite(t *testing.T, k *talk.Talk, who int, data string, want api.Errno) {
	t.Helper()
	if err := k.Write(who, data); plain.Told(err) != want {
		t.Errorf("Write(%d) of %d bytes: %v; want %v", who, len(data), err, want)
	}
}

func wantRead(t *testing.T, k *talk.Talk, who, n int, want string) {
	t.Helper()
	if got, err := k.Read(who, n); got != want || err != nil {
		t.Errorf("Read(%d, %d) = %q, %v; want %q", who, n, got, err, want)
	}
}

// wantNoRead: nothing is told but the error.
func wantNoRead(t *testing.T, k *talk.Talk, who, n int) {
	t.Helper()
	if got, err := k.Read(who, n); got != "" || plain.Told(err) != api.ErrRange {
		t.Errorf("Read(%d, %d) = %q, %v; want ErrRange", who, n, got, err)
	}
}

// wantErr of a call, and that so many are on their way behind it.
func wantErr(t *testing.T, k *talk.Talk, call string, n int, err error, want api.Errno, count int) {
	t.Helper()
	if plain.Told(err) != want || k.Count() != count {
		t.Errorf("%s(%d) = %v, and Count() = %d; want %v, %d", call, n, err, k.Count(), want, count)
	}
}

// changed: how many are on their way once a call is done, if it is.
func changed(k *talk.Talk, want api.Errno, by int) int {
	if want != api.OK {
		return k.Count()
	}
	return k.Count() + by
}

func wantSend(t *testing.T, k *talk.Talk, who int, want api.Errno) {
	t.Helper()
	count := changed(k, want, 1)
	wantErr(t, k, "Send", who, k.Send(who), want, count)
}

// wantCome: what there is not can not come; else it is gone, whatever is wrong.
func wantCome(t *testing.T, k *talk.Talk, i int, want api.Errno) {
	t.Helper()
	count := k.Count()
	if 0 <= i && i < count {
		count--
	}
	wantErr(t, k, "Come", i, k.Come(i), want, count)
}

func wantLose(t *testing.T, k *talk.Talk, i int, want api.Errno) {
	t.Helper()
	count := changed(k, want, -1)
	wantErr(t, k, "Lose", i, k.Lose(i), want, count)
}

func wantTwice(t *testing.T, k *talk.Talk, i int, want api.Errno) {
	t.Helper()
	count := changed(k, want, 1)
	wantErr(t, k, "Twice", i, k.Twice(i), want, count)
}

func wantCount(t *testing.T, k *talk.Talk, want int) {
	t.Helper()
	if got := k.Count(); got != want {
		t.Errorf("Count() = %d; want %d", got, want)
	}
}

// goes: a packet of one comes at once, ahead of all that are on their way.
func goes(t *testing.T, k *talk.Talk, who int) {
	t.Helper()
	wantSend(t, k, who, api.OK)
	wantCome(t, k, k.Count()-1, api.OK)
}

// isLost: a packet of one comes never.
func isLost(t *testing.T, k *talk.Talk, who int) {
	t.Helper()
	wantSend(t, k, who, api.OK)
	wantLose(t, k, k.Count()-1, api.OK)
}

// steps: one wrote byte by byte, and sent each time, so that the i-th packet on its way has i + 1 bytes.
func steps(t *testing.T, who, n int) *talk.Talk {
	t.Helper()
	k := fresh(t, maxWindow)
	for i := range n {
		wantWrite(t, k, who, texts[who][i:i+1], api.OK)
		wantSend(t, k, who, api.OK)
	}
	wantCount(t, k, n)
	return k
}

// wantStep: the i-th comes to one that has nothing as yet, and it is that with so many bytes.
func wantStep(t *testing.T, k *talk.Talk, who, i, bytes int) {
	t.Helper()
	wantCome(t, k, i, api.OK)
	wantRead(t, k, who, 0, "")
	wantRead(t, k, 1-who, most, texts[who][:bytes])
	wantRead(t, k, who, most, "")
}

// wantSteps: on their way are those with so many bytes, which rise, in this order, and no others.
func wantSteps(t *testing.T, k *talk.Talk, who int, bytes ...int) {
	t.Helper()
	wantCount(t, k, len(bytes))
	had := 0
	for _, n := range bytes {
		wantCome(t, k, 0, api.OK)
		wantRead(t, k, 1-who, most, texts[who][had:n])
		had = n
	}
	wantCome(t, k, 0, api.ErrRange)
	wantCount(t, k, 0)
}

// upto: the numbers from 1 to n.
func upto(n int) []int {
	var l []int
	for i := range n {
		l = append(l, i+1)
	}
	return l
}

// midway: both wrote, and of their packets some came, some are on their way, one of them twice, and some were lost.
func midway(t *testing.T) *talk.Talk {
	t.Helper()
	k := wrote(t, 10, 25, 15)
	wantSend(t, k, 0, api.OK)
	wantSend(t, k, 1, api.OK)
	goes(t, k, 0)
	wantRead(t, k, 1, 6, texts[0][:6])
	isLost(t, k, 0)
	wantSend(t, k, 1, api.OK)
	goes(t, k, 1)
	wantRead(t, k, 0, 3, texts[1][:3])
	wantWrite(t, k, 1, texts[1][15:20], api.OK)
	wantSend(t, k, 0, api.OK)
	wantTwice(t, k, 1, api.OK)
	wantCount(t, k, 5)
	return k
}

// later: all that calls tell of a Talk from now on: whatever both know, and what is on its way, is to be seen in it.
func later(k *talk.Talk) []string {
	var told []string
	tell := func(what string, err error) {
		told = append(told, what+" "+plain.Told(err).Error()+" "+strconv.Itoa(k.Count()))
	}
	come := func() {
		tell("come", k.Come(0))
		for who := range 2 {
			b, err := k.Read(who, most)
			tell("read "+b, err)
		}
	}
	turn := func(who int) {
		tell("send", k.Send(who))
		come()
	}
	tell("", nil)
	for range k.Count() {
		come()
	}
	for i := range 2 * most {
		turn(i % 2)
	}
	// By how many more one may write it shows how many it wrote.
	for i := range 2 * most {
		tell("write", k.Write(i%2, "?"))
		turn(i % 2)
	}
	// By how many more may be lost it shows which came, and so which were made.
	for i := range 4 * maxRanges {
		turn(i % 2)
		tell("send", k.Send(i%2))
		tell("lose", k.Lose(0))
	}
	return told
}

// wantAsOne: no later call tells one from the other; it ends what both are used for.
func wantAsOne(t *testing.T, what string, a, b *talk.Talk) {
	t.Helper()
	got, want := later(a), later(b)
	i := 0
	for i < min(len(got), len(want)) && got[i] == want[i] {
		i++
	}
	if i < max(len(got), len(want)) {
		t.Errorf("%s: it shows later, at step %d", what, i)
	}
}

// wantNothingDone by calls on a Talk: it is as one that is built the same.
func wantNothingDone(t *testing.T, what string, build func() *talk.Talk, do func(k *talk.Talk)) {
	t.Helper()
	k := build()
	do(k)
	wantAsOne(t, what, k, build())
}

func TestT1New(t *testing.T) {
	for _, window := range windows {
		k := fresh(t, window)
		wantCount(t, k, 0)
		for who := range 2 {
			wantRead(t, k, who, most, "")
		}
		wantCome(t, k, 0, api.ErrRange)
		wantLose(t, k, 0, api.ErrRange)
		wantTwice(t, k, 0, api.ErrRange)
		// The window is of both.
		for who := range 2 {
			wantWrite(t, k, who, texts[who], api.OK)
			goes(t, k, who)
			wantRead(t, k, 1-who, most, texts[who][:min(window, most)])
		}
		wantCount(t, k, 0)
	}
}

func TestT1NewRefuses(t *testing.T) {
	for _, window := range noWindows {
		if k, err := talk.New(window); k != nil || plain.Told(err) != api.ErrRange {
			t.Errorf("New(%d) = %v, %v; want ErrRange", window, k, err)
		}
	}
}

func TestT1NewKnowsNoOther(t *testing.T) {
	a, b := fresh(t, 10), midway(t)
	wantCount(t, a, 0)
	wantAsOne(t, "made ahead of the other one", a, fresh(t, 10))
	wantCount(t, b, 5)
	wantAsOne(t, "made after the other one", fresh(t, 10), fresh(t, 10))
	wantAsOne(t, "used by turns with the other one", b, midway(t))
	// What is done to one by turns shows in no other one.
	a, b = fresh(t, maxWindow), fresh(t, maxWindow)
	wantWrite(t, a, 0, "abc", api.OK)
	wantWrite(t, b, 0, "xyz", api.OK)
	wantSend(t, a, 0, api.OK)
	wantCount(t, b, 0)
	wantSend(t, b, 0, api.OK)
	wantCome(t, a, 0, api.OK)
	wantCount(t, b, 1)
	wantRead(t, b, 1, most, "")
	wantRead(t, a, 1, most, "abc")
	wantCome(t, b, 0, api.OK)
	wantRead(t, b, 1, most, "xyz")
	wantRead(t, a, 1, most, "")
}

func TestT1Write(t *testing.T) {
	for who := range 2 {
		for _, parts := range [][]int{{0}, {0, 0}, {1}, {0, 1, 0, 2}, {20, 20}, {19, 1, 5}, {59}, {60}, {60, 0, 0}, {59, 1}, slices.Repeat([]int{1}, most)} {
			k := fresh(t, maxWindow)
			n := 0
			for _, long := range parts {
				wantWrite(t, k, who, texts[who][n:n+long], api.OK)
				n += long
			}
			wantCount(t, k, 0)
			// What was not sent is not read, and what one wrote is read by the other one alone.
			wantRead(t, k, 0, most, "")
			wantRead(t, k, 1, most, "")
			goes(t, k, who)
			wantRead(t, k, who, most, "")
			wantRead(t, k, 1-who, most, texts[who][:n])
			wantRead(t, k, 1-who, most, "")
			wantRead(t, k, who, most, "")
		}
	}
}

func TestT1WriteBoth(t *testing.T) {
	// Each has a stream of its own.
	for _, first := range []int{0, 1} {
		k := wrote(t, maxWindow, most, most)
		goes(t, k, first)
		goes(t, k, 1-first)
		wantRead(t, k, 0, most, texts[1])
		wantRead(t, k, 1, most, texts[0])
	}
}

func TestT1WriteBehind(t *testing.T) {
	// What is written once a packet is on its way is in the next one.
	for who := range 2 {
		k := steps(t, who, 3)
		wantWrite(t, k, who, texts[who][3:10], api.OK)
		wantSteps(t, k, who, 1, 2, 3)
		goes(t, k, who)
		wantRead(t, k, 1-who, most, texts[who][3:10])
	}
}

func TestT1WriteFull(t *testing.T) {
	for who := range 2 {
		for _, n := range []int{0, 1, 59, 60} {
			build := func() *talk.Talk {
				k := fresh(t, maxWindow)
				wantWrite(t, k, who, texts[who][:n], api.OK)
				return k
			}
			for _, more := range []int{1, 2, 256, 100_000} {
				wantNothingDone(t, "a Write of too many", build, func(k *talk.Talk) {
					wantWrite(t, k, who, strings.Repeat("x", most-n+more), api.ErrFull)
					wantCount(t, k, 0)
				})
			}
			// It is of each one, not of both.
			k := build()
			wantWrite(t, k, who, texts[who][n:], api.OK)
			wantWrite(t, k, who, "x", api.ErrFull)
			wantWrite(t, k, 1-who, texts[1-who], api.OK)
			wantWrite(t, k, 1-who, "x", api.ErrFull)
			wantWrite(t, k, who, "", api.OK)
			wantAsOne(t, "all", k, wrote(t, maxWindow, most, most))
		}
	}
}

func TestT1WriteWrong(t *testing.T) {
	// ErrRange ahead of ErrFull, too.
	for _, who := range noOnes {
		wantNothingDone(t, "a Write of no one", func() *talk.Talk { return midway(t) }, func(k *talk.Talk) {
			for _, n := range []int{0, 1, 40, most, most + 1, 1000} {
				wantWrite(t, k, who, strings.Repeat("x", n), api.ErrRange)
				wantCount(t, k, 5)
			}
		})
	}
}

func TestT1Read(t *testing.T) {
	for who := range 2 {
		for _, c := range []struct{ asked, told []int }{
			{[]int{most}, []int{most}}, {[]int{math.MaxInt}, []int{most}}, {[]int{most + 1}, []int{most}},
			{[]int{0, 0, 1, 0, 2, 57, 1}, []int{0, 0, 1, 0, 2, 57, 0}},
			{[]int{59, 59, 59}, []int{59, 1, 0}}, {[]int{30, 30, 30}, []int{30, 30, 0}}, {[]int{7, 1 << 32}, []int{7, 53}},
		} {
			k := wrote(t, maxWindow, most, most)
			goes(t, k, 0)
			goes(t, k, 1)
			n := 0
			for i, asked := range c.asked {
				wantRead(t, k, who, asked, texts[1-who][n:n+c.told[i]])
				n += c.told[i]
			}
			// By the other one nothing was read so far.
			wantRead(t, k, 1-who, most, texts[who])
			wantCount(t, k, 0)
		}
	}
}

func TestT1ReadLets(t *testing.T) {
	// What was not read lets no more come; when it was, and this was told, more comes.
	for who := range 2 {
		k := wrote(t, 10, most, most)
		for range 3 {
			goes(t, k, who)
			goes(t, k, 1-who)
		}
		wantRead(t, k, 1-who, 5, texts[who][:5])
		goes(t, k, 1-who)
		goes(t, k, who)
		wantRead(t, k, 1-who, most, texts[who][5:10])
		// It is not known to the other one as yet.
		goes(t, k, who)
		wantRead(t, k, 1-who, most, "")
		goes(t, k, 1-who)
		goes(t, k, who)
		wantRead(t, k, 1-who, most, texts[who][10:20])
		wantRead(t, k, who, most, texts[1-who][:10])
	}
}

func TestT1ReadWrong(t *testing.T) {
	build := func() *talk.Talk {
		k := midway(t)
		wantCome(t, k, 2, api.OK)
		return k
	}
	wantNothingDone(t, "a Read of none", build, func(k *talk.Talk) {
		for _, n := range noCounts {
			wantNoRead(t, k, 0, n)
			wantNoRead(t, k, 1, n)
		}
		for _, who := range noOnes {
			for _, n := range append([]int{0, 1, most, math.MaxInt}, noCounts...) {
				wantNoRead(t, k, who, n)
			}
		}
		wantCount(t, k, 4)
	})
	for who := range 2 {
		k := wrote(t, maxWindow, most, most)
		goes(t, k, 1-who)
		wantNoRead(t, k, who, -1)
		wantNoRead(t, k, -1, most)
		wantNoRead(t, k, 2, most)
		wantRead(t, k, who, most, texts[1-who])
	}
}

func TestT1Send(t *testing.T) {
	for who := range 2 {
		// Behind all that are on their way, and what is in it is as it was when it was sent.
		wantSteps(t, steps(t, who, 12), who, upto(12)...)
		// As nothing is told to be there, each one has all of it, so one of them is enough.
		for i := range 4 {
			k := wrote(t, maxWindow, most, most)
			for range 4 {
				wantSend(t, k, who, api.OK)
			}
			wantCome(t, k, i, api.OK)
			wantRead(t, k, 1-who, most, texts[who])
			wantRead(t, k, who, most, "")
		}
	}
}

func TestT1SendByTurns(t *testing.T) {
	// Of packets of both the i-th is told by when it was sent, whoever did.
	order := []int{0, 1, 1, 0, 0, 0, 1, 0}
	for i, who := range order {
		k := wrote(t, maxWindow, most, most)
		for _, by := range order {
			wantSend(t, k, by, api.OK)
		}
		wantCome(t, k, i, api.OK)
		wantRead(t, k, who, most, "")
		wantRead(t, k, 1-who, most, texts[who])
		wantCount(t, k, len(order)-1)
	}
}

func TestT1SendNothing(t *testing.T) {
	// Also of one that wrote nothing a packet is sent, and it tells what came.
	for who := range 2 {
		k := fresh(t, 1)
		goes(t, k, who)
		wantRead(t, k, 0, most, "")
		wantRead(t, k, 1, most, "")
		wantWrite(t, k, who, "ab", api.OK)
		goes(t, k, who)
		wantRead(t, k, 1-who, most, "a")
		goes(t, k, who)
		wantRead(t, k, 1-who, most, "")
		goes(t, k, 1-who)
		goes(t, k, who)
		wantRead(t, k, 1-who, most, "b")
		wantCount(t, k, 0)
	}
}

func TestT1SendFull(t *testing.T) {
	// It is of both together: all by one, all by the other one, and by turns.
	for _, by := range []func(i int) int{func(int) int { return 0 }, func(int) int { return 1 }, func(i int) int { return i % 2 }} {
		k := wrote(t, maxWindow, most, most)
		for i := range full {
			wantCount(t, k, i)
			wantSend(t, k, by(i), api.OK)
		}
		for range 3 {
			wantSend(t, k, 0, api.ErrFull)
			wantSend(t, k, 1, api.ErrFull)
		}
		// Behind one that came, and one that was lost, there is room for just one.
		wantCome(t, k, 7, api.OK)
		wantSend(t, k, 1, api.OK)
		wantSend(t, k, 1, api.ErrFull)
		wantLose(t, k, full-1, api.OK)
		wantSend(t, k, 0, api.OK)
		wantSend(t, k, 0, api.ErrFull)
		wantCount(t, k, full)
	}
	// What is on its way counts, not what ever was.
	k := wrote(t, maxWindow, most, most)
	for i := range 10 * full {
		goes(t, k, i%2)
	}
}

func TestT1SendFullMakesNone(t *testing.T) {
	for who := range 2 {
		build := func(asked int) *talk.Talk {
			k := wrote(t, 20, 30, 30)
			for i := range full {
				wantSend(t, k, i%2, api.OK)
			}
			for range asked {
				wantSend(t, k, who, api.ErrFull)
			}
			return k
		}
		for _, asked := range []int{1, 2, 30} {
			wantAsOne(t, "a Send that is refused", build(asked), build(0))
			// When there is room again what is sent is as if none had been asked.
			a, b := build(asked), build(0)
			for _, k := range []*talk.Talk{a, b} {
				wantLose(t, k, 3, api.OK)
				wantSend(t, k, who, api.OK)
			}
			wantAsOne(t, "a Send behind one that is refused", a, b)
		}
	}
	// A packet that was made and is not sent would be missing; of so many missing ones no one can know.
	for who := range 2 {
		k := wrote(t, maxWindow, most, most)
		for range 2 * maxRanges {
			for range full {
				wantSend(t, k, who, api.OK)
			}
			wantSend(t, k, who, api.ErrFull)
			for range full {
				wantCome(t, k, 0, api.OK)
			}
		}
	}
}

func TestT1SendWrong(t *testing.T) {
	for _, who := range noOnes {
		wantNothingDone(t, "a Send of no one", func() *talk.Talk { return midway(t) }, func(k *talk.Talk) {
			wantSend(t, k, who, api.ErrRange)
			wantSend(t, k, who, api.ErrRange)
		})
	}
	// ErrRange ahead of ErrFull.
	wantNothingDone(t, "a Send of no one, when it is full", func() *talk.Talk { return steps(t, 0, full) }, func(k *talk.Talk) {
		for _, who := range noOnes {
			wantSend(t, k, who, api.ErrRange)
		}
		wantSend(t, k, 0, api.ErrFull)
		wantSend(t, k, 1, api.ErrFull)
	})
}

// counts of packets on their way at which each place is tried.
var counts = []int{1, 2, 3, 5, 17, full - 1, full}

func TestT1Come(t *testing.T) {
	for who := range 2 {
		for _, n := range counts {
			for i := range n {
				k := steps(t, who, n)
				wantStep(t, k, who, i, i+1)
				// The one behind it has its place now.
				if i+1 < n {
					wantCome(t, k, i, api.OK)
					wantRead(t, k, 1-who, most, texts[who][i+1:i+2])
				} else {
					wantCome(t, k, i, api.ErrRange)
				}
			}
		}
	}
}

func TestT1ComeOrder(t *testing.T) {
	for who := range 2 {
		// From the last one on: it has all, and nothing is read twice.
		k := steps(t, who, full)
		wantStep(t, k, who, full-1, full)
		for i := full - 2; i >= 0; i-- {
			wantCome(t, k, i, api.OK)
			wantRead(t, k, 1-who, most, "")
		}
		wantCome(t, k, 0, api.ErrRange)
		// What is there already, and told so, is not sent again: then what was lost is missing no more.
		goes(t, k, 1-who)
		wantWrite(t, k, who, texts[who][full:], api.OK)
		goes(t, k, who)
		wantRead(t, k, 1-who, most, texts[who][full:])
	}
}

func TestT1ComeToWhom(t *testing.T) {
	// Also when both are under way at once: each one is Taken by the one to whom it was sent.
	k := wrote(t, maxWindow, 10, 20)
	wantSend(t, k, 0, api.OK)
	wantSend(t, k, 1, api.OK)
	wantCome(t, k, 1, api.OK)
	wantRead(t, k, 1, most, "")
	wantRead(t, k, 0, most, texts[1][:20])
	wantCome(t, k, 0, api.OK)
	wantRead(t, k, 0, most, "")
	wantRead(t, k, 1, most, texts[0][:10])
	wantCount(t, k, 0)
}

func TestT1ComeWrong(t *testing.T) {
	for _, n := range append([]int{0}, counts...) {
		wantNothingDone(t, "a Come of none", func() *talk.Talk { return steps(t, 1, n) }, func(k *talk.Talk) {
			for _, i := range append([]int{n, n + 1}, noPlaces...) {
				wantCome(t, k, i, api.ErrRange)
			}
		})
	}
	wantNothingDone(t, "a Come of none", func() *talk.Talk { return midway(t) }, func(k *talk.Talk) {
		for _, i := range append([]int{5, 6}, noPlaces...) {
			wantCome(t, k, i, api.ErrRange)
		}
	})
}

// gaps: so many packets of one came, and ahead of each one was lost; one more is lost, and one that brings new bytes is on its way, between two of the other one.
func gaps(t *testing.T, who, n int) *talk.Talk {
	t.Helper()
	k := wrote(t, maxWindow, 5, 5)
	for range n {
		isLost(t, k, who)
		goes(t, k, who)
	}
	isLost(t, k, who)
	wantRead(t, k, 1-who, most, texts[who][:5])
	wantWrite(t, k, who, texts[who][5:9], api.OK)
	wantSend(t, k, 1-who, api.OK)
	wantSend(t, k, who, api.OK)
	wantSend(t, k, 1-who, api.OK)
	return k
}

func TestT1ComeRefusedIsGone(t *testing.T) {
	for who := range 2 {
		k := gaps(t, who, maxRanges-1)
		wantCome(t, k, 1, api.OK)
		wantRead(t, k, 1-who, most, texts[who][5:9])
		// No one can know of one gap more, so it is refused, and is as one that was lost.
		k = gaps(t, who, maxRanges)
		wantCome(t, k, 1, api.ErrFull)
		wantRead(t, k, 1-who, most, "")
		wantCount(t, k, 2)
		lost := gaps(t, who, maxRanges)
		wantLose(t, lost, 1, api.OK)
		wantAsOne(t, "one that is refused", k, lost)
		// The others come still, and then there is none.
		k = gaps(t, who, maxRanges)
		wantCome(t, k, 1, api.ErrFull)
		wantCome(t, k, 1, api.OK)
		wantCome(t, k, 0, api.OK)
		wantRead(t, k, who, most, texts[1-who][:5])
		wantCome(t, k, 0, api.ErrRange)
		// One like it is refused on its own.
		k = gaps(t, who, maxRanges)
		wantTwice(t, k, 1, api.OK)
		wantCome(t, k, 1, api.ErrFull)
		wantCome(t, k, 2, api.ErrFull)
		wantCount(t, k, 2)
	}
}

func TestT1ComeRefusedAnswer(t *testing.T) {
	// The first packet is overtaken by so many that its number, cut short, is read as one that was not made; so the answer is refused, as chapter 15 has it.
	build := func(who int) *talk.Talk {
		k := wrote(t, maxWindow, 5, 5)
		wantSend(t, k, who, api.OK)
		for range 399 {
			goes(t, k, who)
		}
		wantCome(t, k, 0, api.OK)
		wantSend(t, k, 1-who, api.OK)
		return k
	}
	for who := range 2 {
		k, lost := build(who), build(who)
		wantCome(t, k, 0, api.ErrState)
		wantCount(t, k, 0)
		wantRead(t, k, who, most, "")
		wantLose(t, lost, 0, api.OK)
		wantAsOne(t, "an answer that is refused", k, lost)
	}
}

func TestT1Lose(t *testing.T) {
	for who := range 2 {
		for _, n := range counts {
			for i := range n {
				k := steps(t, who, n)
				wantLose(t, k, i, api.OK)
				wantSteps(t, k, who, slices.Delete(upto(n), i, i+1)...)
			}
		}
	}
}

func TestT1LoseComesAgain(t *testing.T) {
	// What was lost is sent again by the next one, and nothing of it is read ahead of that.
	for who := range 2 {
		k := wrote(t, maxWindow, most, most)
		for range full {
			wantSend(t, k, who, api.OK)
		}
		for range full {
			wantLose(t, k, 0, api.OK)
		}
		wantLose(t, k, 0, api.ErrRange)
		wantRead(t, k, 1-who, most, "")
		goes(t, k, who)
		wantRead(t, k, 1-who, most, texts[who])
	}
}

func TestT1LoseWrong(t *testing.T) {
	for _, n := range append([]int{0}, counts...) {
		wantNothingDone(t, "a Lose of none", func() *talk.Talk { return steps(t, 0, n) }, func(k *talk.Talk) {
			for _, i := range append([]int{n, n + 1}, noPlaces...) {
				wantLose(t, k, i, api.ErrRange)
			}
		})
	}
}

func TestT1Twice(t *testing.T) {
	for who := range 2 {
		for _, n := range counts {
			if n == full {
				continue
			}
			for i := range n {
				// One like it is behind all.
				k := steps(t, who, n)
				wantTwice(t, k, i, api.OK)
				wantStep(t, k, who, n, i+1)
				// It is still there, and as the number came nothing is done by it.
				wantCome(t, k, i, api.OK)
				wantRead(t, k, 1-who, most, "")
				wantCount(t, k, n-1)
				// Nor does the one behind all do more, if it comes later.
				k = steps(t, who, n)
				wantTwice(t, k, i, api.OK)
				wantSteps(t, k, who, append(upto(n), n)...)
			}
		}
	}
}

func TestT1TwiceIsNoSend(t *testing.T) {
	// It is the same packet, not one more: none is made, and what was written since is not in it.
	for who := range 2 {
		k := steps(t, who, 1)
		wantWrite(t, k, who, texts[who][1:9], api.OK)
		wantTwice(t, k, 0, api.OK)
		wantLose(t, k, 0, api.OK)
		wantStep(t, k, who, 0, 1)
		lone := steps(t, who, 1)
		wantWrite(t, lone, who, texts[who][1:9], api.OK)
		wantStep(t, lone, who, 0, 1)
		wantAsOne(t, "a packet that was doubled", k, lone)
		// As often as one likes: no gap comes of it.
		k = wrote(t, maxWindow, most, most)
		for range 2 * maxRanges {
			wantSend(t, k, who, api.OK)
			wantTwice(t, k, 0, api.OK)
			wantTwice(t, k, 1, api.OK)
			for range 3 {
				wantCome(t, k, 0, api.OK)
			}
		}
	}
}

func TestT1TwiceFull(t *testing.T) {
	for who := range 2 {
		for _, i := range []int{0, 1, 20, full - 2, full - 1} {
			wantNothingDone(t, "a Twice when it is full", func() *talk.Talk { return steps(t, who, full) }, func(k *talk.Talk) {
				wantTwice(t, k, i, api.ErrFull)
			})
		}
		// Full by Twice: neither it nor Send may do more, and no packet is made.
		build := func() *talk.Talk {
			k := steps(t, who, 1)
			for n := 1; n < full; n++ {
				wantTwice(t, k, n-1, api.OK)
			}
			return k
		}
		wantNothingDone(t, "when it is full by Twice", build, func(k *talk.Talk) {
			wantTwice(t, k, 0, api.ErrFull)
			wantSend(t, k, who, api.ErrFull)
			wantSend(t, k, 1-who, api.ErrFull)
			wantTwice(t, k, full-1, api.ErrFull)
		})
		k := build()
		wantCome(t, k, 0, api.OK)
		wantTwice(t, k, 0, api.OK)
		wantTwice(t, k, 0, api.ErrFull)
		wantLose(t, k, 0, api.OK)
		wantSend(t, k, 1-who, api.OK)
		wantTwice(t, k, 0, api.ErrFull)
	}
}

func TestT1TwiceWrong(t *testing.T) {
	// When it is full, too: ErrRange ahead of ErrFull.
	for _, n := range append([]int{0}, counts...) {
		wantNothingDone(t, "a Twice of none", func() *talk.Talk { return steps(t, 1, n) }, func(k *talk.Talk) {
			for _, i := range append([]int{n, n + 1}, noPlaces...) {
				wantTwice(t, k, i, api.ErrRange)
			}
		})
	}
}

func TestT1Count(t *testing.T) {
	k := wrote(t, maxWindow, most, most)
	for i, c := range []struct {
		do   func() error
		want int
	}{
		{func() error { return k.Write(0, "") }, 0},
		{func() error { return k.Send(0) }, 1},
		{func() error { return k.Send(2) }, 1},
		{func() error { return k.Send(1) }, 2},
		{func() error { return k.Twice(1) }, 3},
		{func() error { return k.Twice(3) }, 3},
		{func() error { return k.Come(0) }, 2},
		{func() error { return k.Come(2) }, 2},
		{func() error { _, err := k.Read(1, 9); return err }, 2},
		{func() error { return k.Lose(0) }, 1},
		{func() error { return k.Lose(1) }, 1},
		{func() error { return k.Come(0) }, 0},
		{func() error { return k.Come(0) }, 0},
	} {
		c.do()
		// It may be asked as often as one likes.
		for range 2 {
			if k.Count() != c.want {
				t.Errorf("behind call %d Count() = %d; want %d", i, k.Count(), c.want)
			}
		}
	}
}
