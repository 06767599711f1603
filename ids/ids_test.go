package ids_test

import (
	"math"
	"slices"
	"testing"

	"wanderwire/api"
	"wanderwire/ids"
	"wanderwire/plain"
)

const top = api.MaxNumber

// ever: so many are issued at most.
const ever = 100

// noNames: what is no name; some would be one if only their last bits were looked at.
var noNames = []int{-1, -2, -top, math.MinInt, math.MinInt + 1, top + 1, top + 2, 1 << 31, 1<<32 + 5, 1 << 32, math.MaxInt - 1, math.MaxInt}

// noLimits: what is no limit.
var noLimits = []int{0, -1, -2, -api.MaxIDs, math.MinInt, math.MinInt + 1, api.MaxIDs + 1, api.MaxIDs + 2, top, 1<<32 + 5, math.MaxInt - 1, math.MaxInt}

// of Seq and Name an ID.
func of(seq, name int) api.ID { return api.ID{Seq: seq, Name: name} }

// list of IDs, from Seq and Name by turns.
func list(words ...int) []api.ID {
	var l []api.ID
	for i := 0; i < len(words); i += 2 {
		l = append(l, of(words[i], words[i+1]))
	}
	return l
}

// made of New, with the names issued.
func made(t *testing.T, limit int, names ...int) *ids.IDs {
	t.Helper()
	s, err := ids.New(limit)
	if s == nil || err != nil {
		t.Fatalf("New(%d) = %v, %v", limit, s, err)
	}
	for i, name := range names {
		wantIssue(t, s, name, of(i, name), api.OK)
	}
	return s
}

// usedUp: of limit; all that may ever be were issued, of the names 1000 on, and none is live.
func usedUp(t *testing.T, limit int) *ids.IDs {
	t.Helper()
	s := made(t, limit)
	for seq := range ever {
		wantIssue(t, s, 1000+seq, of(seq, 1000+seq), api.OK)
		wantRetire(t, s, seq, api.OK)
	}
	return s
}

func wantIssue(t *testing.T, s *ids.IDs, name int, want api.ID, wantErr api.Errno) {
	t.Helper()
	got, err := s.Issue(name)
	if got != want || plain.Told(err) != wantErr {
		t.Errorf("Issue(%d) = %v, %v; want %v, %v", name, got, err, want, wantErr)
	}
}

func wantRetire(t *testing.T, s *ids.IDs, seq int, want api.Errno) {
	t.Helper()
	if err := s.Retire(seq); plain.Told(err) != want {
		t.Errorf("Retire(%d) = %v; want %v", seq, err, want)
	}
}

func wantFind(t *testing.T, s *ids.IDs, name int, want api.ID, wantErr api.Errno) {
	t.Helper()
	got, err := s.Find(name)
	if got != want || plain.Told(err) != wantErr {
		t.Errorf("Find(%d) = %v, %v; want %v, %v", name, got, err, want, wantErr)
	}
}

// wantLive: just these are live, and Find finds them.
func wantLive(t *testing.T, s *ids.IDs, want ...api.ID) {
	t.Helper()
	if got := s.Live(); !slices.Equal(got, want) {
		t.Errorf("Live() = %v; want %v", got, want)
	}
	for _, d := range want {
		wantFind(t, s, d.Name, d, api.OK)
	}
}

// scribble over an answer, and over what lies behind it, so that shared memory shows.
func scribble(l []api.ID) {
	l = l[:cap(l)]
	for i := range l {
		l[i] = of(-1, -2)
	}
}

func TestI1New(t *testing.T) {
	for limit := 1; limit <= api.MaxIDs; limit++ {
		s := made(t, limit)
		wantLive(t, s)
		wantFind(t, s, 0, api.ID{}, api.ErrNone)
		wantRetire(t, s, 0, api.ErrNone)
		wantIssue(t, s, 7, of(0, 7), api.OK)
	}
}

func TestI1NewWrong(t *testing.T) {
	for _, limit := range noLimits {
		if s, err := ids.New(limit); s != nil || plain.Told(err) != api.ErrRange {
			t.Errorf("New(%d) = %v, %v; want nil, ErrRange", limit, s, err)
		}
	}
}

func TestI1Issue(t *testing.T) {
	s := made(t, api.MaxIDs)
	wantIssue(t, s, 40, of(0, 40), api.OK)
	wantIssue(t, s, 30, of(1, 30), api.OK)
	wantIssue(t, s, 50, of(2, 50), api.OK)
	// The least and the greatest name, and their neighbours.
	wantIssue(t, s, 0, of(3, 0), api.OK)
	wantIssue(t, s, top, of(4, top), api.OK)
	wantIssue(t, s, 1, of(5, 1), api.OK)
	wantIssue(t, s, top-1, of(6, top-1), api.OK)
	wantLive(t, s, list(0, 40, 1, 30, 2, 50, 3, 0, 4, top, 5, 1, 6, top-1)...)
}

func TestI1IssueRange(t *testing.T) {
	s := made(t, 3, 5)
	for _, name := range noNames {
		wantIssue(t, s, name, api.ID{}, api.ErrRange)
		// Asked again it is no name either, rather than one that was.
		wantIssue(t, s, name, api.ID{}, api.ErrRange)
		wantFind(t, s, name, api.ID{}, api.ErrNone)
	}
	wantLive(t, s, of(0, 5))
	wantIssue(t, s, 6, of(1, 6), api.OK)
	wantIssue(t, s, 7, of(2, 7), api.OK)
}

func TestI1IssueClash(t *testing.T) {
	for _, name := range []int{0, 1, 5, top} {
		s := made(t, 3, name)
		wantIssue(t, s, name, api.ID{}, api.ErrClash)
		wantIssue(t, s, name, api.ID{}, api.ErrClash)
		wantLive(t, s, of(0, name))
		wantIssue(t, s, 77, of(1, 77), api.OK)
		wantIssue(t, s, name, api.ID{}, api.ErrClash)
		wantIssue(t, s, 77, api.ID{}, api.ErrClash)
		wantLive(t, s, list(0, name, 1, 77)...)
	}
}

func TestI1NoNameIsUsedAgain(t *testing.T) {
	s := made(t, 2, 5)
	wantRetire(t, s, 0, api.OK)
	wantIssue(t, s, 5, api.ID{}, api.ErrClash)
	wantFind(t, s, 5, api.ID{}, api.ErrNone)
	wantLive(t, s)
	// However many come behind it.
	for seq := 1; seq < ever; seq++ {
		wantIssue(t, s, 100+seq, of(seq, 100+seq), api.OK)
		for was := 1; was <= seq; was++ {
			wantIssue(t, s, 100+was, api.ID{}, api.ErrClash)
		}
		wantRetire(t, s, seq, api.OK)
		wantIssue(t, s, 5, api.ID{}, api.ErrClash)
		wantIssue(t, s, 100+seq, api.ID{}, api.ErrClash)
		wantFind(t, s, 5, api.ID{}, api.ErrNone)
		wantFind(t, s, 100+seq, api.ID{}, api.ErrNone)
	}
}

func TestI1IssueFullLive(t *testing.T) {
	for limit := 1; limit <= api.MaxIDs; limit++ {
		s := made(t, limit)
		var all []api.ID
		for seq := range limit {
			wantIssue(t, s, 20+seq, of(seq, 20+seq), api.OK)
			all = append(all, of(seq, 20+seq))
		}
		wantLive(t, s, all...)
		for _, name := range []int{0, 9, top} {
			wantIssue(t, s, name, api.ID{}, api.ErrFull)
			wantFind(t, s, name, api.ID{}, api.ErrNone)
		}
		wantRetire(t, s, limit, api.ErrNone)
		wantLive(t, s, all...)
		// A name that there was no room for never was one, and takes no Seq.
		wantRetire(t, s, 0, api.OK)
		wantIssue(t, s, 9, of(limit, 9), api.OK)
		wantLive(t, s, append(all[1:], of(limit, 9))...)
		wantIssue(t, s, 0, api.ID{}, api.ErrFull)
	}
}

func TestI1IssueFullEver(t *testing.T) {
	for limit := 1; limit <= api.MaxIDs; limit++ {
		s := made(t, limit)
		for seq := range ever {
			// What is refused is not counted.
			wantIssue(t, s, -1, api.ID{}, api.ErrRange)
			wantIssue(t, s, 1000+seq, of(seq, 1000+seq), api.OK)
			wantIssue(t, s, 1000+seq, api.ID{}, api.ErrClash)
			wantRetire(t, s, seq+1, api.ErrNone)
			if seq < ever-1 {
				wantRetire(t, s, seq, api.OK)
			}
		}
		wantLive(t, s, of(99, 1099))
		wantIssue(t, s, 3, api.ID{}, api.ErrFull)
		wantFind(t, s, 3, api.ID{}, api.ErrNone)
		wantLive(t, s, of(99, 1099))
		// Nor is there room when none is live any more.
		wantRetire(t, s, 99, api.OK)
		wantIssue(t, s, 3, api.ID{}, api.ErrFull)
		wantIssue(t, s, 0, api.ID{}, api.ErrFull)
		wantIssue(t, s, top, api.ID{}, api.ErrFull)
		wantRetire(t, s, 100, api.ErrNone)
		wantLive(t, s)
	}
}

func TestI1IssueTellsTheFirst(t *testing.T) {
	// There are limit live: what is no name, and what was one, is told ahead of that.
	live := made(t, 2, 5, 6)
	wantRetire(t, live, 0, api.OK)
	wantIssue(t, live, 7, of(2, 7), api.OK)
	// There were 100, of which none, and of which limit, are live.
	gone := usedUp(t, 2)
	both := made(t, 1, 1000)
	for seq := 1; seq < ever; seq++ {
		wantRetire(t, both, seq-1, api.OK)
		wantIssue(t, both, 1000+seq, of(seq, 1000+seq), api.OK)
	}
	for _, name := range noNames {
		wantIssue(t, live, name, api.ID{}, api.ErrRange)
		wantIssue(t, gone, name, api.ID{}, api.ErrRange)
		wantIssue(t, both, name, api.ID{}, api.ErrRange)
	}
	for _, name := range []int{5, 6, 7} {
		wantIssue(t, live, name, api.ID{}, api.ErrClash)
	}
	for seq := range ever {
		wantIssue(t, gone, 1000+seq, api.ID{}, api.ErrClash)
		wantIssue(t, both, 1000+seq, api.ID{}, api.ErrClash)
	}
	for _, s := range []*ids.IDs{live, gone, both} {
		wantIssue(t, s, 8, api.ID{}, api.ErrFull)
	}
}

func TestI1Retire(t *testing.T) {
	s := made(t, 5, 40, 30, 50, 0, top)
	// One between, the first, the last.
	wantRetire(t, s, 2, api.OK)
	wantLive(t, s, list(0, 40, 1, 30, 3, 0, 4, top)...)
	wantRetire(t, s, 0, api.OK)
	wantLive(t, s, list(1, 30, 3, 0, 4, top)...)
	wantRetire(t, s, 4, api.OK)
	wantLive(t, s, list(1, 30, 3, 0)...)
	// Live no more.
	for _, seq := range []int{0, 2, 4} {
		wantRetire(t, s, seq, api.ErrNone)
	}
	// Seq goes on rising, though the last one is gone.
	wantRetire(t, s, 5, api.ErrNone)
	wantIssue(t, s, 60, of(5, 60), api.OK)
	wantLive(t, s, list(1, 30, 3, 0, 5, 60)...)
	wantRetire(t, s, 5, api.OK)
	wantRetire(t, s, 3, api.OK)
	wantRetire(t, s, 1, api.OK)
	wantLive(t, s)
	wantIssue(t, s, 61, of(6, 61), api.OK)
	wantLive(t, s, of(6, 61))
}

func TestI1RetireNone(t *testing.T) {
	s := made(t, 3, 40, 30, 50)
	wantRetire(t, s, 1, api.OK)
	// Not issued yet, or never to be; a name is no Seq.
	for _, seq := range []int{3, 4, 30, 40, 50, 99, 100, top, top + 1, 1 << 32, 1<<32 + 2, -1, -2, -3, math.MinInt, math.MinInt + 1, math.MaxInt - 1, math.MaxInt} {
		wantRetire(t, s, seq, api.ErrNone)
	}
	wantRetire(t, s, 1, api.ErrNone)
	wantLive(t, s, list(0, 40, 2, 50)...)
	wantIssue(t, s, 60, of(3, 60), api.OK)
	wantRetire(t, s, 3, api.OK)
	wantRetire(t, s, 3, api.ErrNone)
}

func TestI1Find(t *testing.T) {
	s := made(t, 5, 40, 2, 0, top, 50)
	for seq, name := range []int{40, 2, 0, top, 50} {
		wantFind(t, s, name, of(seq, name), api.OK)
	}
	// What never was; a Seq is no name.
	for _, name := range append([]int{1, 3, 4, 39, 41, top - 1}, noNames...) {
		wantFind(t, s, name, api.ID{}, api.ErrNone)
	}
	// Live no more.
	wantRetire(t, s, 2, api.OK)
	wantFind(t, s, 0, api.ID{}, api.ErrNone)
	wantRetire(t, s, 0, api.OK)
	wantFind(t, s, 40, api.ID{}, api.ErrNone)
	// The others are found as ahead of it.
	wantLive(t, s, list(1, 2, 3, top, 4, 50)...)
	// To look for a name does not make it one that was.
	wantFind(t, s, 60, api.ID{}, api.ErrNone)
	wantIssue(t, s, 60, of(5, 60), api.OK)
	wantFind(t, s, 60, of(5, 60), api.OK)
}

func TestI1FindOfNone(t *testing.T) {
	s := made(t, 1)
	for _, name := range append([]int{0, 1, top}, noNames...) {
		wantFind(t, s, name, api.ID{}, api.ErrNone)
	}
	wantLive(t, s)
	wantIssue(t, s, 0, of(0, 0), api.OK)
}

func TestI1Live(t *testing.T) {
	s := made(t, 4)
	wantLive(t, s)
	// By Seq, not by Name, nor by what was retired when.
	wantIssue(t, s, 9, of(0, 9), api.OK)
	wantIssue(t, s, 3, of(1, 3), api.OK)
	wantIssue(t, s, 6, of(2, 6), api.OK)
	wantIssue(t, s, 0, of(3, 0), api.OK)
	wantLive(t, s, list(0, 9, 1, 3, 2, 6, 3, 0)...)
	wantRetire(t, s, 1, api.OK)
	wantIssue(t, s, 8, of(4, 8), api.OK)
	wantLive(t, s, list(0, 9, 2, 6, 3, 0, 4, 8)...)
	wantRetire(t, s, 0, api.OK)
	wantIssue(t, s, 1, of(5, 1), api.OK)
	wantLive(t, s, list(2, 6, 3, 0, 4, 8, 5, 1)...)
}

func TestI1LiveStaysAsItWas(t *testing.T) {
	s := made(t, 4, 40, 30, 50)
	before := s.Live()
	again := s.Live()
	wantRetire(t, s, 0, api.OK)
	between := s.Live()
	wantIssue(t, s, 60, of(3, 60), api.OK)
	wantIssue(t, s, 70, of(4, 70), api.OK)
	wantRetire(t, s, 3, api.OK)
	behind := s.Live()
	for _, l := range [][]api.ID{before, again} {
		if !slices.Equal(l, list(0, 40, 1, 30, 2, 50)) {
			t.Errorf("what Live answered first became %v", l)
		}
	}
	if !slices.Equal(between, list(1, 30, 2, 50)) || !slices.Equal(behind, list(1, 30, 2, 50, 4, 70)) {
		t.Errorf("what Live answered then became %v, %v", between, behind)
	}
}

func TestI1LiveIsTheCallers(t *testing.T) {
	s := made(t, 4, 40, 30, 50)
	first, second := s.Live(), s.Live()
	scribble(first)
	if !slices.Equal(second, list(0, 40, 1, 30, 2, 50)) {
		t.Errorf("two answers of Live share memory: %v", second)
	}
	wantLive(t, s, list(0, 40, 1, 30, 2, 50)...)
	// Nor does one that is made longer reach into what is kept.
	longer := append(second, of(-1, -1))
	wantIssue(t, s, 60, of(3, 60), api.OK)
	if longer[3] != of(-1, -1) {
		t.Errorf("an answer of Live that was made longer became %v", longer)
	}
	wantLive(t, s, list(0, 40, 1, 30, 2, 50, 3, 60)...)
	scribble(second)
	scribble(longer)
	wantRetire(t, s, 1, api.OK)
	wantLive(t, s, list(0, 40, 2, 50, 3, 60)...)
	wantIssue(t, s, 30, api.ID{}, api.ErrClash)
}

func TestI1TwoKnowNothingOfOneAnother(t *testing.T) {
	a, b := made(t, 1), made(t, api.MaxIDs)
	wantIssue(t, a, 5, of(0, 5), api.OK)
	wantFind(t, b, 5, api.ID{}, api.ErrNone)
	wantRetire(t, b, 0, api.ErrNone)
	wantLive(t, b)
	wantIssue(t, a, 6, api.ID{}, api.ErrFull)
	wantIssue(t, b, 6, of(0, 6), api.OK)
	wantIssue(t, b, 5, of(1, 5), api.OK)
	wantRetire(t, b, 0, api.OK)
	wantLive(t, a, of(0, 5))
	wantLive(t, b, of(1, 5))
	wantRetire(t, a, 0, api.OK)
	wantLive(t, b, of(1, 5))
	wantIssue(t, b, 7, of(2, 7), api.OK)
	wantIssue(t, a, 7, of(1, 7), api.OK)
	// That one has no Seq left leaves the other as it is.
	usedUp(t, 3)
	wantIssue(t, b, 1000, of(3, 1000), api.OK)
	wantIssue(t, b, 1099, of(4, 1099), api.OK)
}

// model is the promise once more, as one row for each that was issued.
type model struct {
	limit int
	rows  []row
}

type row struct {
	id   api.ID
	gone bool
}

// live rows' IDs.
func (m *model) live() []api.ID {
	var l []api.ID
	for _, r := range m.rows {
		if !r.gone {
			l = append(l, r.id)
		}
	}
	return l
}

func (m *model) issue(name int) (api.ID, api.Errno) {
	if name < 0 || name > top {
		return api.ID{}, api.ErrRange
	}
	for _, r := range m.rows {
		if r.id.Name == name {
			return api.ID{}, api.ErrClash
		}
	}
	if len(m.live()) == m.limit || len(m.rows) == ever {
		return api.ID{}, api.ErrFull
	}
	m.rows = append(m.rows, row{id: of(len(m.rows), name)})
	return of(len(m.rows)-1, name), api.OK
}

func (m *model) retire(seq int) api.Errno {
	if seq < 0 || seq >= len(m.rows) || m.rows[seq].gone {
		return api.ErrNone
	}
	m.rows[seq].gone = true
	return api.OK
}

func (m *model) find(name int) (api.ID, api.Errno) {
	for _, d := range m.live() {
		if d.Name == name {
			return d, api.OK
		}
	}
	return api.ID{}, api.ErrNone
}

// TestI1AsTheModel: many calls in a mixed order, up to the hundredth and beyond, answer as the model does.
func TestI1AsTheModel(t *testing.T) {
	for limit := 1; limit <= api.MaxIDs; limit++ {
		s, m := made(t, limit), &model{limit: limit}
		state := uint32(limit)
		next := func(n int) int {
			state = state*1664525 + 1013904223
			return int(state>>8) % n
		}
		for range 3000 {
			switch name := next(160) - 5; next(3) {
			case 0:
				want, wantErr := m.issue(name)
				wantIssue(t, s, name, want, wantErr)
			case 1:
				// Mostly near to the newest, so that there often is one.
				seq := len(m.rows) + 1 - next(limit+4)
				wantRetire(t, s, seq, m.retire(seq))
			default:
				want, wantErr := m.find(name)
				wantFind(t, s, name, want, wantErr)
			}
			wantLive(t, s, m.live()...)
			if t.Failed() {
				t.Fatalf("limit %d: not as the model", limit)
			}
		}
		if len(m.rows) != ever {
			t.Errorf("limit %d: only %d were issued", limit, len(m.rows))
		}
	}
}
