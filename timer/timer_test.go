package timer_test

import (
	"math"
	"math/rand"
	"slices"
	"testing"

	"fingerpost/api"
	"fingerpost/timer"
)

// lefts are ticks that are left, with those at the edges and at the ends of int among them.
var lefts = []int{1, 2, 3, 7, 999, 1000, 1001, 1 << 30, 0, -1, -5, 1<<30 + 1, 1<<31 + 5, 1<<32 + 1, math.MaxInt - 1, math.MaxInt, math.MinInt, math.MinInt + 1}

// kinds and places are kinds and nodes, with such as are none.
var kinds = []int{0, 1, 2, 3, 4, -1, 5, 256, 1 << 32, math.MinInt, math.MaxInt}
var places = []int{0, 1, 7, 15, 16, -1, 17, 256, 1<<32 + 1, math.MinInt, math.MaxInt}

// of is a timer.
func of(kind, node, left int) api.Alarm {
	return api.Alarm{Kind: kind, Node: node, Left: left}
}

// lists are lists of timers: none, one, others in order, and such as Set does not make.
var lists = [][]api.Alarm{
	nil,
	{},
	{of(0, 0, 1)},
	{of(2, 5, 9)},
	{of(0, 0, 1), of(0, 1, 2), of(0, 15, 1), of(1, 0, 3), of(3, 0, 1)},
	{of(1, 1, 1), of(1, 1, 2), of(1, 1, 1)},
	{of(3, 3, 4), of(2, 2, 3), of(1, 1, 2), of(0, 0, 1)},
	{of(1, 7, 3), of(0, 0, 5), of(1, 7, 1), of(2, 7, 2), of(1, 7, 3)},
	{of(0, 0, 0), of(1, 1, -1), of(2, 2, math.MinInt), of(3, 3, math.MaxInt)},
	{of(-1, 3, 2), of(0, -4, 2), of(9, 99, 2), of(math.MinInt, math.MaxInt, 5), of(math.MaxInt, math.MinInt, 5)},
	many(100),
}

// many are n timers, of several kinds and nodes, not in order.
func many(n int) []api.Alarm {
	var l []api.Alarm
	for i := range n {
		l = append(l, of(i*7%5-1, i*11%18-1, i*13%29-3))
	}
	return l
}

// some is one timer, of kinds and nodes that are often alike.
func some(r *rand.Rand) api.Alarm {
	return of(r.Intn(6)-1, []int{-1, 0, 1, 2, 14, 15, 16}[r.Intn(7)], []int{0, 1, 2, 3, 9, 1 << 30, -3}[r.Intn(7)])
}

// allRight are at most n timers, set one by one.
func allRight(r *rand.Rand, n int) []api.Alarm {
	var l []api.Alarm
	for range n {
		l, _ = timer.Set(l, of(r.Intn(4), r.Intn(16), 1+r.Intn(9)))
	}
	return l
}

// mayBe tells by the chapter's words whether a may be set.
func mayBe(a api.Alarm) bool {
	return slices.Contains([]int{0, 1, 2, 3}, a.Kind) && 0 <= a.Node && a.Node <= 15 && 1 <= a.Left && a.Left <= 1073741824
}

// ahead tells by the chapter's words whether a stands ahead of b.
func ahead(a, b api.Alarm) bool {
	return a.Kind < b.Kind || a.Kind == b.Kind && a.Node < b.Node
}

// set is Set by the chapter's words, of an a that may be set.
func set(l []api.Alarm, a api.Alarm) []api.Alarm {
	var want []api.Alarm
	there := false
	for _, b := range l {
		if !there && !ahead(b, a) {
			want = append(want, a)
			there = true
		}
		if b.Kind != a.Kind || b.Node != a.Node {
			want = append(want, b)
		}
	}
	if !there {
		want = append(want, a)
	}
	return want
}

// setIsRight looks whether Set tells by the chapter's words.
func setIsRight(t *testing.T, l []api.Alarm, a api.Alarm) {
	t.Helper()
	want, wrong := l, api.ErrArg
	if mayBe(a) {
		want, wrong = set(l, a), api.OK
	}
	if got, err := timer.Set(l, a); !slices.Equal(got, want) || err != wrong {
		t.Fatalf("Set(%v, %v): %v, %d, want %v, %d", l, a, got, err, want, wrong)
	}
}

func TestSet(t *testing.T) { // P13.1
	l := []api.Alarm{of(0, 3, 5), of(1, 2, 7), of(1, 4, 9), of(3, 0, 1)}
	for _, c := range []struct {
		l    []api.Alarm
		a    api.Alarm
		want []api.Alarm
	}{
		{nil, of(0, 0, 1), []api.Alarm{of(0, 0, 1)}},
		{nil, of(3, 15, 1<<30), []api.Alarm{of(3, 15, 1<<30)}},
		{l, of(0, 2, 8), []api.Alarm{of(0, 2, 8), of(0, 3, 5), of(1, 2, 7), of(1, 4, 9), of(3, 0, 1)}},
		{l, of(0, 4, 8), []api.Alarm{of(0, 3, 5), of(0, 4, 8), of(1, 2, 7), of(1, 4, 9), of(3, 0, 1)}},
		// The kind counts first, then the node.
		{l, of(1, 0, 8), []api.Alarm{of(0, 3, 5), of(1, 0, 8), of(1, 2, 7), of(1, 4, 9), of(3, 0, 1)}},
		{l, of(1, 3, 8), []api.Alarm{of(0, 3, 5), of(1, 2, 7), of(1, 3, 8), of(1, 4, 9), of(3, 0, 1)}},
		{l, of(2, 0, 8), []api.Alarm{of(0, 3, 5), of(1, 2, 7), of(1, 4, 9), of(2, 0, 8), of(3, 0, 1)}},
		{l, of(3, 1, 8), []api.Alarm{of(0, 3, 5), of(1, 2, 7), of(1, 4, 9), of(3, 0, 1), of(3, 1, 8)}},
		// Set anew: with more ticks, and with less.
		{l, of(1, 2, 8), []api.Alarm{of(0, 3, 5), of(1, 2, 8), of(1, 4, 9), of(3, 0, 1)}},
		{l, of(1, 2, 1), []api.Alarm{of(0, 3, 5), of(1, 2, 1), of(1, 4, 9), of(3, 0, 1)}},
		{l, of(0, 3, 5), l},
		{l, of(3, 0, 2), []api.Alarm{of(0, 3, 5), of(1, 2, 7), of(1, 4, 9), of(3, 0, 2)}},
		// All others of its kind and node go.
		{[]api.Alarm{of(1, 1, 1), of(1, 1, 2), of(2, 1, 2), of(1, 1, 3)}, of(1, 1, 4), []api.Alarm{of(1, 1, 4), of(2, 1, 2)}},
		// One of its kind and node, which goes, is the first that does not stand ahead of it: its place counts.
		{[]api.Alarm{of(1, 1, 1), of(0, 0, 2), of(3, 3, 3)}, of(1, 1, 4), []api.Alarm{of(1, 1, 4), of(0, 0, 2), of(3, 3, 3)}},
		{[]api.Alarm{of(0, 9, 1), of(1, 1, 1), of(0, 0, 2), of(0, 1, 3), of(1, 1, 9)}, of(1, 1, 4), []api.Alarm{of(0, 9, 1), of(1, 1, 4), of(0, 0, 2), of(0, 1, 3)}},
		// Not in order: the first that does not stand ahead counts, whatever stands behind it.
		{[]api.Alarm{of(3, 3, 3), of(0, 0, 1), of(1, 1, 2)}, of(1, 1, 4), []api.Alarm{of(1, 1, 4), of(3, 3, 3), of(0, 0, 1)}},
		{[]api.Alarm{of(0, 0, 1), of(3, 3, 3), of(0, 1, 1)}, of(2, 2, 4), []api.Alarm{of(0, 0, 1), of(2, 2, 4), of(3, 3, 3), of(0, 1, 1)}},
		// What stands in l need not be right.
		{[]api.Alarm{of(-1, 99, 0), of(math.MinInt, 0, -7), of(4, -1, math.MaxInt)}, of(0, 0, 1), []api.Alarm{of(-1, 99, 0), of(math.MinInt, 0, -7), of(0, 0, 1), of(4, -1, math.MaxInt)}},
		{[]api.Alarm{of(1, math.MinInt, 3), of(1, math.MaxInt, 3)}, of(1, 0, 1), []api.Alarm{of(1, math.MinInt, 3), of(1, 0, 1), of(1, math.MaxInt, 3)}},
	} {
		if got, err := timer.Set(c.l, c.a); !slices.Equal(got, c.want) || err != api.OK {
			t.Errorf("Set(%v, %v): %v, %d, want %v", c.l, c.a, got, err, c.want)
		}
	}
}

func TestSetOfNone(t *testing.T) { // P13.1
	l := []api.Alarm{of(3, 3, 3), of(1, 2, 7), of(-1, 0, 9), of(4, 0, 9), of(1, 16, 9)}
	for _, a := range []api.Alarm{
		of(-1, 0, 1), of(4, 0, 1), of(1<<32, 0, 1), of(math.MinInt, 0, 1), of(math.MaxInt, 0, 1),
		of(1, -1, 1), of(1, 16, 1), of(1, 1<<32, 1), of(1, math.MinInt, 1), of(1, math.MaxInt, 1),
		of(1, 2, 0), of(1, 2, -1), of(1, 2, 1<<30+1), of(1, 2, 1<<32+1), of(1, 2, math.MinInt), of(1, 2, math.MaxInt),
		{}, of(-1, -1, -1),
	} {
		if got, err := timer.Set(l, a); !slices.Equal(got, l) || err != api.ErrArg {
			t.Errorf("Set(%v, %v): %v, %d", l, a, got, err)
		}
		if got, err := timer.Set(nil, a); len(got) != 0 || err != api.ErrArg {
			t.Errorf("Set of none, %v: %v, %d", a, got, err)
		}
	}
}

func TestSetOfAny(t *testing.T) { // P13.1
	for _, l := range lists {
		for _, kind := range kinds {
			for _, node := range places {
				for _, left := range lefts {
					setIsRight(t, l, of(kind, node, left))
				}
			}
		}
	}
	r := rand.New(rand.NewSource(1))
	for range 20000 {
		var l []api.Alarm
		for range r.Intn(12) {
			l = append(l, some(r))
		}
		setIsRight(t, l, some(r))
	}
}

func TestSetInOrder(t *testing.T) { // P13.1
	r := rand.New(rand.NewSource(2))
	for range 300 {
		l := allRight(r, r.Intn(90))
		for i := 1; i < len(l); i++ {
			if !ahead(l[i-1], l[i]) {
				t.Fatalf("%v does not stand ahead of %v", l[i-1], l[i])
			}
		}
	}
}

func TestLeft(t *testing.T) { // P13.2
	l := []api.Alarm{of(0, 1, 4), of(1, 1, 5), of(1, 0, 6), of(1, 1, 7), of(2, 2, -9), of(3, 3, 0), of(3, 3, 8), of(-1, 16, math.MaxInt), of(9, -9, math.MinInt)}
	for _, c := range []struct{ kind, node, want int }{
		{0, 1, 4}, {1, 0, 6},
		// The first one counts, also if nothing is left of it, or less.
		{1, 1, 5}, {3, 3, 0}, {2, 2, -9},
		// It need not be right.
		{-1, 16, math.MaxInt}, {9, -9, math.MinInt},
		// Both count.
		{0, 0, 0}, {2, 1, 0}, {0, 2, 0}, {1, 2, 0}, {16, -1, 0}, {3, 1, 0},
		{4, 4, 0}, {math.MinInt, math.MinInt, 0}, {math.MaxInt, math.MaxInt, 0}, {1 << 32, 1, 0},
	} {
		if got := timer.Left(l, c.kind, c.node); got != c.want {
			t.Errorf("Left(%d, %d): %d, want %d", c.kind, c.node, got, c.want)
		}
	}
	if got := timer.Left(nil, 0, 0) + timer.Left([]api.Alarm{}, 0, 0); got != 0 {
		t.Errorf("Left of none: %d", got)
	}
}

func TestLeftOfSet(t *testing.T) { // P13.1, P13.2
	for _, l := range lists {
		for _, a := range []api.Alarm{of(0, 0, 1), of(1, 7, 5), of(3, 15, 1<<30), of(2, 2, 1000)} {
			on, _ := timer.Set(l, a)
			if got := timer.Left(on, a.Kind, a.Node); got != a.Left {
				t.Errorf("Left of %v, set to %v: %d", a, l, got)
			}
		}
	}
}

func TestStop(t *testing.T) { // P13.3
	l := []api.Alarm{of(0, 1, 4), of(1, 1, 5), of(1, 0, 6), of(1, 1, 7), of(3, 3, 0), of(-1, 16, 9)}
	for _, c := range []struct {
		kind, node int
		want       []api.Alarm
	}{
		{0, 1, []api.Alarm{of(1, 1, 5), of(1, 0, 6), of(1, 1, 7), of(3, 3, 0), of(-1, 16, 9)}},
		// All of both go.
		{1, 1, []api.Alarm{of(0, 1, 4), of(1, 0, 6), of(3, 3, 0), of(-1, 16, 9)}},
		{3, 3, []api.Alarm{of(0, 1, 4), of(1, 1, 5), of(1, 0, 6), of(1, 1, 7), of(-1, 16, 9)}},
		{-1, 16, []api.Alarm{of(0, 1, 4), of(1, 1, 5), of(1, 0, 6), of(1, 1, 7), of(3, 3, 0)}},
		// Both count.
		{0, 0, l}, {2, 1, l}, {3, 1, l}, {16, -1, l}, {4, 4, l}, {1 << 32, 1, l}, {math.MinInt, math.MaxInt, l},
	} {
		if got := timer.Stop(l, c.kind, c.node); !slices.Equal(got, c.want) {
			t.Errorf("Stop(%d, %d): %v, want %v", c.kind, c.node, got, c.want)
		}
	}
	if got := timer.Stop([]api.Alarm{of(2, 2, 2), of(2, 2, 2)}, 2, 2); len(got) != 0 {
		t.Errorf("Stop of all: %v", got)
	}
	if got := timer.Stop(nil, 0, 0); len(got) != 0 {
		t.Errorf("Stop of none: %v", got)
	}
}

func TestTick(t *testing.T) { // P13.4
	for _, c := range []struct{ l, on, off []api.Alarm }{
		{nil, nil, nil},
		{[]api.Alarm{of(0, 1, 1)}, nil, []api.Alarm{of(0, 1, 0)}},
		{[]api.Alarm{of(0, 1, 2)}, []api.Alarm{of(0, 1, 1)}, nil},
		{[]api.Alarm{of(2, 5, 1<<30)}, []api.Alarm{of(2, 5, 1<<30-1)}, nil},
		{[]api.Alarm{of(2, 5, math.MaxInt)}, []api.Alarm{of(2, 5, math.MaxInt-1)}, nil},
		// What has less than a tick goes off too, with a Left of 0.
		{[]api.Alarm{of(1, 1, 0), of(2, 2, -1), of(3, 3, -5), of(0, 0, math.MinInt)}, nil, []api.Alarm{of(1, 1, 0), of(2, 2, 0), of(3, 3, 0), of(0, 0, 0)}},
		// Both lists in order.
		{
			[]api.Alarm{of(3, 3, 3), of(1, 1, 1), of(2, 2, 2), of(0, 9, 1), of(0, 0, 5), of(1, 1, 1)},
			[]api.Alarm{of(3, 3, 2), of(2, 2, 1), of(0, 0, 4)},
			[]api.Alarm{of(1, 1, 0), of(0, 9, 0), of(1, 1, 0)},
		},
		// Kinds and nodes are as they were, right or not.
		{[]api.Alarm{of(-7, 99, 2), of(math.MinInt, math.MaxInt, 1)}, []api.Alarm{of(-7, 99, 1)}, []api.Alarm{of(math.MinInt, math.MaxInt, 0)}},
	} {
		if on, off := timer.Tick(c.l); !slices.Equal(on, c.on) || !slices.Equal(off, c.off) {
			t.Errorf("Tick(%v): %v, %v, want %v, %v", c.l, on, off, c.on, c.off)
		}
	}
}

func TestSame(t *testing.T) { // P13.5
	l := []api.Alarm{of(0, 1, 2), of(1, 2, 3), of(1, 2, 4)}
	for _, c := range []struct {
		b    []api.Alarm
		want bool
	}{
		{[]api.Alarm{of(0, 1, 2), of(1, 2, 3), of(1, 2, 4)}, true},
		{[]api.Alarm{of(0, 1, 2), of(1, 2, 4), of(1, 2, 3)}, false},
		{[]api.Alarm{of(1, 2, 3), of(0, 1, 2), of(1, 2, 4)}, false},
		{[]api.Alarm{of(0, 1, 2), of(1, 2, 3)}, false},
		{[]api.Alarm{of(0, 1, 2), of(1, 2, 3), of(1, 2, 4), of(1, 2, 4)}, false},
		{[]api.Alarm{of(0, 1, 2), of(1, 2, 3), of(1, 2, 4), {}}, false},
		// Each field counts.
		{[]api.Alarm{of(0, 1, 2), of(1, 2, 3), of(2, 2, 4)}, false},
		{[]api.Alarm{of(0, 1, 2), of(1, 2, 3), of(1, 3, 4)}, false},
		{[]api.Alarm{of(0, 1, 2), of(1, 2, 3), of(1, 2, 5)}, false},
		{[]api.Alarm{of(0, 1, 1), of(1, 2, 3), of(1, 2, 4)}, false},
		{nil, false},
		{[]api.Alarm{}, false},
	} {
		if timer.Same(l, c.b) != c.want || timer.Same(c.b, l) != c.want {
			t.Errorf("Same(%v, %v): not %t", l, c.b, c.want)
		}
	}
	if !timer.Same(nil, nil) || !timer.Same(nil, []api.Alarm{}) || !timer.Same([]api.Alarm{}, nil) || timer.Same(nil, []api.Alarm{{}}) {
		t.Error("Same of none")
	}
}

func TestNext(t *testing.T) { // P13.6
	for _, c := range []struct {
		l    []api.Alarm
		want int
	}{
		{nil, 0},
		{[]api.Alarm{}, 0},
		{[]api.Alarm{of(1, 1, 1)}, 1},
		{[]api.Alarm{of(1, 1, 5)}, 5},
		{[]api.Alarm{of(1, 1, 1<<30)}, 1 << 30},
		{[]api.Alarm{of(1, 1, math.MaxInt)}, math.MaxInt},
		// Whichever goes off first, wherever it stands.
		{[]api.Alarm{of(0, 0, 9), of(1, 1, 4), of(2, 2, 7)}, 4},
		{[]api.Alarm{of(0, 0, 2), of(1, 1, 4), of(2, 2, 7)}, 2},
		{[]api.Alarm{of(0, 0, 9), of(1, 1, 4), of(2, 2, 3)}, 3},
		{[]api.Alarm{of(0, 0, 4), of(1, 1, 4)}, 4},
		// One whose Left is below 1 in 1.
		{[]api.Alarm{of(1, 1, 0)}, 1},
		{[]api.Alarm{of(1, 1, -1)}, 1},
		{[]api.Alarm{of(1, 1, math.MinInt)}, 1},
		{[]api.Alarm{of(0, 0, 9), of(1, 1, -7), of(2, 2, 3)}, 1},
		{[]api.Alarm{of(0, 0, 0), of(1, 1, 7), of(2, 2, 3)}, 1},
		{[]api.Alarm{of(0, 0, 7), of(1, 1, 0)}, 1},
	} {
		if got := timer.Next(c.l); got != c.want {
			t.Errorf("Next(%v): %d, want %d", c.l, got, c.want)
		}
	}
}

// runIsRight looks whether Run answers what so many Ticks answer.
func runIsRight(t *testing.T, l []api.Alarm, ticks int) {
	t.Helper()
	want := slices.Clone(l)
	var went []api.Alarm
	for i := 0; i < ticks && i < 1000; i++ {
		on, off := timer.Tick(want)
		want, went = on, append(went, off...)
	}
	if on, off := timer.Run(l, ticks); !slices.Equal(on, want) || !slices.Equal(off, went) {
		t.Fatalf("Run(%v, %d): %v, %v, want %v, %v", l, ticks, on, off, want, went)
	}
}

func TestRun(t *testing.T) { // P13.7
	l := []api.Alarm{of(0, 0, 3), of(0, 1, 1), of(1, 1, 2), of(2, 2, 1), of(3, 3, 3), of(3, 4, -8), of(3, 5, 1001)}
	for _, c := range []struct {
		ticks   int
		on, off []api.Alarm
	}{
		{0, l, nil},
		{1, []api.Alarm{of(0, 0, 2), of(1, 1, 1), of(3, 3, 2), of(3, 5, 1000)}, []api.Alarm{of(0, 1, 0), of(2, 2, 0), of(3, 4, 0)}},
		{2, []api.Alarm{of(0, 0, 1), of(3, 3, 1), of(3, 5, 999)}, []api.Alarm{of(0, 1, 0), of(2, 2, 0), of(3, 4, 0), of(1, 1, 0)}},
		{3, []api.Alarm{of(3, 5, 998)}, []api.Alarm{of(0, 1, 0), of(2, 2, 0), of(3, 4, 0), of(1, 1, 0), of(0, 0, 0), of(3, 3, 0)}},
		{1000, []api.Alarm{of(3, 5, 1)}, []api.Alarm{of(0, 1, 0), of(2, 2, 0), of(3, 4, 0), of(1, 1, 0), of(0, 0, 0), of(3, 3, 0)}},
		// As many as 0 to 1000.
		{1001, []api.Alarm{of(3, 5, 1)}, []api.Alarm{of(0, 1, 0), of(2, 2, 0), of(3, 4, 0), of(1, 1, 0), of(0, 0, 0), of(3, 3, 0)}},
		{math.MaxInt, []api.Alarm{of(3, 5, 1)}, []api.Alarm{of(0, 1, 0), of(2, 2, 0), of(3, 4, 0), of(1, 1, 0), of(0, 0, 0), of(3, 3, 0)}},
		{-1, l, nil},
		{math.MinInt, l, nil},
	} {
		if on, off := timer.Run(l, c.ticks); !slices.Equal(on, c.on) || !slices.Equal(off, c.off) {
			t.Errorf("Run(%d): %v, %v, want %v, %v", c.ticks, on, off, c.on, c.off)
		}
	}
}

func TestRunIsTicks(t *testing.T) { // P13.7
	for _, l := range lists {
		for _, ticks := range []int{0, 1, 2, 3, 5, 29, 998, 999, 1000, 1001, 5000, -1, -1000, 1 << 32, 1<<32 + 1, math.MinInt, math.MinInt + 1, math.MaxInt} {
			runIsRight(t, l, ticks)
		}
	}
	runIsRight(t, []api.Alarm{of(0, 0, 999), of(0, 1, 1000), of(0, 2, 1001), of(0, 3, 1<<30)}, 1000)
}

func TestRunOfParts(t *testing.T) { // P13.7
	r := rand.New(rand.NewSource(3))
	for range 300 {
		l := allRight(r, r.Intn(30))
		a, b := r.Intn(6), r.Intn(6)
		on, off := timer.Run(l, a)
		on, more := timer.Run(on, b)
		if got, gone := timer.Run(l, a+b); !timer.Same(got, on) || !timer.Same(gone, slices.Concat(off, more)) {
			t.Fatalf("Run(%v, %d and %d): %v, %v, want %v, %v", l, a, b, on, slices.Concat(off, more), got, gone)
		}
	}
}

func TestOf(t *testing.T) { // P13.8
	l := []api.Alarm{of(0, 1, 4), of(1, 2, 5), of(3, 1, 6), of(1, 1, 7), of(1, 1, -7), of(2, 16, 0), of(-1, -1, 9)}
	for _, c := range []struct {
		node int
		want []api.Alarm
	}{
		{1, []api.Alarm{of(0, 1, 4), of(3, 1, 6), of(1, 1, 7), of(1, 1, -7)}},
		{2, []api.Alarm{of(1, 2, 5)}},
		{16, []api.Alarm{of(2, 16, 0)}},
		{-1, []api.Alarm{of(-1, -1, 9)}},
		{0, nil}, {3, nil}, {1<<32 + 1, nil}, {math.MinInt, nil}, {math.MaxInt, nil},
	} {
		if got := timer.Of(l, c.node); !slices.Equal(got, c.want) {
			t.Errorf("Of(%d): %v, want %v", c.node, got, c.want)
		}
	}
	if got := timer.Of(nil, 0); len(got) != 0 {
		t.Errorf("Of none: %v", got)
	}
}

func TestNextTick(t *testing.T) { // the chapter's example
	for _, l := range lists {
		for kind := range 4 {
			for node := range 16 {
				set, err := timer.Set(l, of(kind, node, 1))
				on, off := timer.Tick(set)
				if err != api.OK || !slices.Contains(off, of(kind, node, 0)) || timer.Left(on, kind, node) != 0 {
					t.Fatalf("Tick of %v: %v, %v", set, on, off)
				}
			}
		}
	}
}

// goesOff looks whether a, set to l, goes off behind just as many ticks as it has left, and once.
func goesOff(t *testing.T, l []api.Alarm, a api.Alarm) {
	t.Helper()
	on, _ := timer.Set(l, a)
	for i := 1; i <= a.Left+20; i++ {
		var off []api.Alarm
		on, off = timer.Tick(on)
		if slices.Contains(off, of(a.Kind, a.Node, 0)) != (i == a.Left) {
			t.Fatalf("%v, set to %v, at the tick %d: %v went off", a, l, i, off)
		}
		if timer.Left(on, a.Kind, a.Node) != max(a.Left-i, 0) {
			t.Fatalf("%v, set to %v, behind %d ticks: %v", a, l, i, on)
		}
	}
}

func TestSetGoesOffOnce(t *testing.T) { // P13.9
	for _, l := range lists {
		for _, left := range []int{1, 2, 3, 10, 100} {
			for _, a := range []api.Alarm{of(0, 0, left), of(1, 1, left), of(1, 7, left), of(2, 5, left), of(3, 15, left)} {
				goesOff(t, l, a)
			}
		}
	}
}

func TestStoppedOrSetAnew(t *testing.T) { // P13.9
	l, _ := timer.Set(nil, of(1, 7, 3))
	l, _ = timer.Set(l, of(2, 7, 3))
	l, _ = timer.Set(l, of(1, 8, 4))
	l, off := timer.Run(l, 2)
	if len(off) != 0 {
		t.Fatalf("too early: %v", off)
	}
	if _, off = timer.Run(timer.Stop(l, 1, 7), 100); !slices.Equal(off, []api.Alarm{of(2, 7, 0), of(1, 8, 0)}) {
		t.Errorf("stopped: %v", off)
	}
	later, _ := timer.Set(l, of(1, 7, 3))
	if _, off = timer.Run(later, 2); !slices.Equal(off, []api.Alarm{of(2, 7, 0), of(1, 8, 0)}) {
		t.Errorf("set anew, ahead of it: %v", off)
	}
	if _, off = timer.Run(later, 100); !slices.Equal(off, []api.Alarm{of(2, 7, 0), of(1, 8, 0), of(1, 7, 0)}) {
		t.Errorf("set anew: %v", off)
	}
}

// step does one step to timers and to a clock: when each goes off, by kind and node.
func step(r *rand.Rand, l []api.Alarm, when map[[2]int]int, now int) []api.Alarm {
	kind, node, left := r.Intn(4), r.Intn(16), 1+r.Intn(12)
	if r.Intn(3) == 0 {
		delete(when, [2]int{kind, node})
		return timer.Stop(l, kind, node)
	}
	when[[2]int{kind, node}] = now + left
	l, _ = timer.Set(l, of(kind, node, left))
	return l
}

func TestManySteps(t *testing.T) { // P13.9
	r := rand.New(rand.NewSource(13))
	for range 100 {
		var l []api.Alarm
		when := map[[2]int]int{}
		for now := range 200 {
			for range r.Intn(4) {
				l = step(r, l, when, now)
			}
			var off []api.Alarm
			l, off = timer.Tick(l)
			for _, a := range off {
				if at, is := when[[2]int{a.Kind, a.Node}]; !is || at != now+1 || a.Left != 0 {
					t.Fatalf("%v went off at %d", a, now+1)
				}
				delete(when, [2]int{a.Kind, a.Node})
			}
			if len(l) != len(when) {
				t.Fatalf("behind %d ticks: %v, want %v", now+1, l, when)
			}
		}
	}
}

// nextIsRight looks whether nothing goes off ahead of Next, and then something does.
func nextIsRight(t *testing.T, l []api.Alarm) {
	t.Helper()
	next := timer.Next(l)
	if (next == 0) != (len(l) == 0) {
		t.Fatalf("Next(%v): %d", l, next)
	}
	if next == 0 || next > 1000 {
		return
	}
	if _, off := timer.Run(l, next-1); len(off) != 0 {
		t.Fatalf("Next(%v): %d, but ahead of it went off %v", l, next, off)
	}
	if _, off := timer.Run(l, next); len(off) == 0 {
		t.Fatalf("Next(%v): %d, but nothing went off", l, next)
	}
}

func TestNextAndRun(t *testing.T) { // P13.10
	for _, l := range lists {
		nextIsRight(t, l)
	}
	r := rand.New(rand.NewSource(10))
	for range 2000 {
		var l []api.Alarm
		for range r.Intn(6) {
			l = append(l, of(r.Intn(4), r.Intn(16), r.Intn(40)-3))
		}
		nextIsRight(t, l)
		nextIsRight(t, allRight(r, r.Intn(6)))
	}
	nextIsRight(t, []api.Alarm{of(0, 0, 1000)})
}

// held is a list of n timers with room behind its end, and all of that memory.
func held(n int) ([]api.Alarm, []api.Alarm) {
	l := append(many(n), of(1, 1, 1), of(2, 2, 2), of(3, 3, 3), of(0, 0, 9))
	return l[:n], l
}

// answers are all lists that calls answer, by the calls' names.
func answers(l []api.Alarm) map[string][]api.Alarm {
	m := map[string][]api.Alarm{}
	m["Set of none"], _ = timer.Set(l, of(9, 9, 9))
	m["Set, first"], _ = timer.Set(l, of(0, 0, 1))
	m["Set, last"], _ = timer.Set(l, of(3, 15, 1))
	m["Set between"], _ = timer.Set(l, of(1, 7, 1))
	m["Stop"] = timer.Stop(l, 0, 10)
	m["Stop of none"] = timer.Stop(l, 9, 9)
	m["Tick, on"], m["Tick, off"] = timer.Tick(l)
	m["Run, on"], m["Run, off"] = timer.Run(l, 3)
	m["Run of one, on"], m["Run of one, off"] = timer.Run(l, 1)
	m["Run of none, on"], m["Run of none, off"] = timer.Run(l, 0)
	m["Of"] = timer.Of(l, 10)
	m["Of none"] = timer.Of(l, 99)
	return m
}

func TestArgumentsStay(t *testing.T) { // R3
	for n := range 12 {
		l, whole := held(n)
		want := slices.Clone(whole)
		answers(l)
		timer.Left(l, 1, 1)
		timer.Same(l, l)
		timer.Next(l)
		if !slices.Equal(whole, want) {
			t.Errorf("lists of %d: what was handed in was changed: %v, want %v", n, whole, want)
		}
	}
}

func TestAnswersAreNewMemory(t *testing.T) { // R3
	for n := range 12 {
		l, whole := held(n)
		want := slices.Clone(whole)
		told := answers(l)
		kept := map[string][]api.Alarm{}
		for name, a := range told {
			kept[name] = slices.Clone(a)
		}
		for name, a := range told {
			for i := range a {
				a[i] = of(77, 77, 77)
			}
			_ = append(a, of(88, 88, 88))
			if !slices.Equal(whole, want) {
				t.Fatalf("%s of %d shares memory with what was handed in: %v, want %v", name, n, whole, want)
			}
			for other, b := range told {
				if other != name && !slices.Equal(b, kept[other]) {
					t.Fatalf("%s and %s of %d share memory", name, other, n)
				}
			}
			copy(a, kept[name])
		}
	}
}

func FuzzTimer(f *testing.F) { // P13.1 to P13.10
	f.Add([]byte{1, 7, 3, 0, 0, 5, 1, 7, 1}, 1, 7, 4, 3)
	f.Add([]byte{255, 255, 255}, 0, 0, 1, 1001)
	f.Add([]byte{}, math.MinInt, math.MaxInt, math.MinInt, math.MinInt)
	f.Fuzz(func(t *testing.T, b []byte, kind, node, left, ticks int) {
		var l []api.Alarm
		for i := 0; i+2 < len(b) && i < 300; i += 3 {
			l = append(l, of(int(int8(b[i]%8)), int(b[i+1]%20), int(int8(b[i+2]))))
		}
		setIsRight(t, l, of(kind, node, left))
		setIsRight(t, l, of(kind&3, node&15, left&1023+1))
		runIsRight(t, l, ticks)
		nextIsRight(t, l)
		goesOff(t, l, of(kind&3, node&15, left&63+1))
		if gone := timer.Stop(l, kind&3, node&15); timer.Left(gone, kind&3, node&15) != 0 || len(timer.Of(gone, node&15)) > len(timer.Of(l, node&15)) {
			t.Fatalf("Stop(%v, %d, %d): %v", l, kind&3, node&15, gone)
		}
	})
}
