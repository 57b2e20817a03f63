package serial_test

import (
	"math"
	"math/rand"
	"slices"
	"testing"

	"fingerpost/api"
	"fingerpost/serial"
)

// rights and wrongs are numbers that are right, and that are not, with those at the edges and at the ends of int among them.
var (
	rights = []int{0, 1, 2, 6, 7, 8, 9, 255, 256, 999, 1000, 1001, 32767, 32768, 64998, 64999, 65000, 65001, 65527, 65528, 65534, 65535}
	wrongs = []int{-1, -2, -7, -8, -9, -65535, -65536, 65536, 65537, 65543, 1 << 17, 1<<31 - 1, 1 << 31, -1 << 31, 1 << 32, 1<<32 + 5, math.MinInt, math.MinInt + 1, math.MinInt + 8, math.MaxInt, math.MaxInt - 1, math.MaxInt - 7, math.MaxInt - 8}
	both   = slices.Concat(rights, wrongs)
)

// isRight tells by the chapter's words whether n is right.
func isRight(n int) bool {
	return 0 <= n && n <= 65535
}

// row is the numbers from first to last.
func row(first, last int) []int {
	var l []int
	for n := first; n <= last; n++ {
		l = append(l, n)
	}
	return l
}

// each is every so many numbers, many of them, from first on.
func each(first, step, many int) []int {
	var l []int
	for i := range many {
		l = append(l, first+i*step)
	}
	return l
}

// ones is the runs of one number each.
func ones(l []int) [][2]int {
	var runs [][2]int
	for _, n := range l {
		runs = append(runs, [2]int{n, n})
	}
	return runs
}

// backwards is l from its end on.
func backwards(l []int) []int {
	l = slices.Clone(l)
	slices.Reverse(l)
	return l
}

// clean is the right numbers of l, rising, each once, by a table of all that are right.
func clean(l []int) []int {
	var in [65536]bool
	for _, n := range l {
		if isRight(n) {
			in[n] = true
		}
	}
	var out []int
	for n, is := range in {
		if is {
			out = append(out, n)
		}
	}
	return out
}

// runsOf is Runs by the chapter's words: a run begins with what has no number just below it.
func runsOf(l []int) [][2]int {
	in := clean(l)
	var runs [][2]int
	for i, n := range in {
		if i > 0 && in[i-1] == n-1 {
			runs[len(runs)-1][1] = n
		} else {
			runs = append(runs, [2]int{n, n})
		}
	}
	if len(runs) >= 64 {
		runs = runs[:64]
		runs[63][1] = runs[63][0]
	}
	return runs
}

// unrunsOf is Unruns by the chapter's words, of runs of which not too many numbers are told.
func unrunsOf(l [][2]int, most int) []int {
	var all []int
	for _, run := range l {
		if isRight(run[0]) && isRight(run[1]) {
			all = append(all, row(run[0], run[1])...)
		}
	}
	return all[:min(len(all), max(0, min(most, 1000)))]
}

// missingOf is Missing by the chapter's words.
func missingOf(next int, l []int) []int {
	var gaps []int
	in := clean(l)
	for i := range 8 {
		// Where there is no such int it is not right either.
		if n := next + i; n >= next && isRight(n) && !slices.Contains(in, n) && len(in) > 0 && in[len(in)-1] > n {
			gaps = append(gaps, n)
		}
	}
	return gaps
}

// some is up to n numbers, near one another, now and then with such as are not right.
func some(r *rand.Rand, n int) []int {
	var l []int
	at := []int{-4, 0, 3, 5000, 64990, 65520}[r.Intn(6)]
	wide := 1 + r.Intn(40)
	for range r.Intn(n + 1) {
		if r.Intn(12) == 0 {
			l = append(l, both[r.Intn(len(both))])
		} else {
			l = append(l, at+r.Intn(wide))
		}
	}
	return l
}

func TestRight(t *testing.T) { // P15.1
	for n := -70000; n <= 140000; n++ {
		if got := serial.Right(n); got != (0 <= n && n <= 65535) {
			t.Fatalf("Right(%d): %t", n, got)
		}
	}
	for _, n := range rights {
		if !serial.Right(n) {
			t.Errorf("Right(%d): false", n)
		}
	}
	for _, n := range wrongs {
		if serial.Right(n) {
			t.Errorf("Right(%d): true", n)
		}
	}
}

func TestNext(t *testing.T) { // P15.2
	for _, c := range []struct {
		n, want int
		err     api.Errno
	}{
		{0, 1, api.OK},
		{1, 2, api.OK},
		{255, 256, api.OK},
		{32767, 32768, api.OK},
		{64998, 64999, api.OK},
		{64999, 65000, api.OK},
		{65000, 0, api.ErrWrap},
		{65001, 0, api.ErrWrap},
		{65534, 0, api.ErrWrap},
		{65535, 0, api.ErrWrap},
		{65536, 0, api.ErrArg},
		{65537, 0, api.ErrArg},
		{-1, 0, api.ErrArg},
		{1 << 32, 0, api.ErrArg},
		{math.MaxInt, 0, api.ErrArg},
		{math.MinInt, 0, api.ErrArg},
	} {
		if got, err := serial.Next(c.n); got != c.want || err != c.err {
			t.Errorf("Next(%d): %d, %d, want %d, %d", c.n, got, err, c.want, c.err)
		}
	}
	for _, n := range wrongs {
		if got, err := serial.Next(n); got != 0 || err != api.ErrArg {
			t.Errorf("Next(%d): %d, %d", n, got, err)
		}
	}
}

func TestAhead(t *testing.T) { // P15.3
	for _, c := range []struct{ n, of, want int }{
		{0, 0, 0},
		{5, 5, 0},
		{65535, 65535, 0},
		{6, 5, 1},
		{5, 6, -1},
		{9, 0, 9},
		{0, 9, -1},
		{65535, 0, 65535},
		{0, 65535, -1}, // they never begin anew
		{65535, 65534, 1},
		{65534, 65535, -1},
		{65001, 65000, 1},
		// One that is not right.
		{0, -1, -1},
		{-1, 0, -1},
		{-1, -1, -1},
		{-1, -2, -1},
		{65536, 65535, -1},
		{65535, 65536, -1},
		{65536, 65536, -1},
		{65537, 65536, -1},
		{65536, 0, -1},
		{math.MaxInt, math.MinInt, -1},
		{math.MinInt, math.MaxInt, -1},
		{math.MaxInt, 0, -1},
		{0, math.MinInt, -1},
		{1 << 32, 0, -1},
	} {
		if got := serial.Ahead(c.n, c.of); got != c.want {
			t.Errorf("Ahead(%d, %d): %d, want %d", c.n, c.of, got, c.want)
		}
	}
	for _, n := range both {
		for _, of := range both {
			want := -1
			if isRight(n) && isRight(of) && n >= of {
				want = n - of
			}
			if got := serial.Ahead(n, of); got != want {
				t.Errorf("Ahead(%d, %d): %d, want %d", n, of, got, want)
			}
		}
	}
}

func TestNear(t *testing.T) { // P15.4, and the chapter's example
	for _, next := range []int{0, 1, 8, 1000, 64995, 65520, 65528} {
		for i := -10; i < 20; i++ {
			n := next + i
			if got := serial.Near(n, next); got != (0 <= i && i <= 7 && n <= 65535) {
				t.Errorf("Near(%d, %d): %t", n, next, got)
			}
		}
	}
	for _, c := range []struct {
		n, next int
		want    bool
	}{
		{8, 0, false},
		{7, 0, true},
		{65535, 65535, true},
		{65535, 65528, true},
		{65535, 65527, false},
		// They never begin anew.
		{0, 65535, false},
		{65536, 65535, false},
		{65536, 65536, false},
		{0, -1, false},
		{-1, -1, false},
		{5, 4 - 1<<32, false},
		{5, 4 - 1<<16, false},
		{math.MinInt, math.MaxInt, false},
		{math.MaxInt, math.MaxInt, false},
		{math.MinInt + 3, math.MinInt, false},
	} {
		if got := serial.Near(c.n, c.next); got != c.want {
			t.Errorf("Near(%d, %d): %t", c.n, c.next, got)
		}
	}
	for _, n := range both {
		for _, next := range both {
			if got, ahead := serial.Near(n, next), serial.Ahead(n, next); got != (ahead >= 0 && ahead <= 7) {
				t.Errorf("Near(%d, %d): %t, though it is %d ahead", n, next, got, ahead)
			}
		}
	}
}

func TestRuns(t *testing.T) { // P15.5
	for _, c := range []struct {
		l    []int
		want [][2]int
	}{
		{nil, nil},
		{[]int{}, nil},
		{[]int{0}, [][2]int{{0, 0}}},
		{[]int{65535}, [][2]int{{65535, 65535}}},
		{[]int{5, 1, 2, 2, 9, 3}, [][2]int{{1, 3}, {5, 5}, {9, 9}}},
		{[]int{1, 2, 3}, [][2]int{{1, 3}}},
		{[]int{3, 2, 1}, [][2]int{{1, 3}}},
		{[]int{7, 7, 7}, [][2]int{{7, 7}}},
		{[]int{7, 8, 7, 8, 7}, [][2]int{{7, 8}}},
		// A gap of just one number.
		{[]int{1, 3}, [][2]int{{1, 1}, {3, 3}}},
		{[]int{1, 3, 2}, [][2]int{{1, 3}}},
		{[]int{0, 1, 3, 4}, [][2]int{{0, 1}, {3, 4}}},
		// Numbers that are not right, and would join others, or be runs.
		{[]int{-1, 0, 1}, [][2]int{{0, 1}}},
		{[]int{-1}, nil},
		{[]int{65534, 65535, 65536}, [][2]int{{65534, 65535}}},
		{[]int{65536, 65537}, nil},
		{[]int{-2, 4, math.MaxInt, 5, math.MinInt, 1 << 32, 7}, [][2]int{{4, 5}, {7, 7}}},
		{wrongs, nil},
		// They never begin anew.
		{[]int{65535, 0}, [][2]int{{0, 0}, {65535, 65535}}},
		{row(0, 65535), [][2]int{{0, 65535}}},
		{backwards(row(0, 65535)), [][2]int{{0, 65535}}},
		{slices.Concat(row(-20, 9), row(20, 30), row(65530, 65550), row(31, 40)), [][2]int{{0, 9}, {20, 40}, {65530, 65535}}},
	} {
		if got := serial.Runs(c.l); !slices.Equal(got, c.want) {
			t.Errorf("Runs(%.30v): %v, want %v", c.l, got, c.want)
		}
	}
}

func TestRunsOfMany(t *testing.T) { // P15.5
	for _, c := range []struct {
		what string
		l    []int
		want [][2]int
	}{
		{"63 runs", each(4, 2, 63), ones(each(4, 2, 63))},
		{"64 runs", each(4, 2, 64), ones(each(4, 2, 64))},
		{"65 runs", each(4, 2, 65), ones(each(4, 2, 64))},
		{"65 runs, not in order", backwards(each(4, 2, 65)), ones(each(4, 2, 64))},
		{"32768 runs", each(1, 2, 32768), ones(each(1, 2, 64))},
		// Of the 63rd all counts, of the 64th just its first number.
		{"63 runs, the last one long", slices.Concat(each(0, 2, 62), row(200, 209)), append(ones(each(0, 2, 62)), [2]int{200, 209})},
		{"64 runs, the last one long", slices.Concat(each(0, 2, 63), row(200, 209)), ones(append(each(0, 2, 63), 200))},
		{"64 runs, the last one of two", slices.Concat(each(0, 2, 63), row(200, 201)), ones(append(each(0, 2, 63), 200))},
		{"64 runs, the last two long", slices.Concat(each(0, 2, 62), row(200, 209), row(211, 220)), append(ones(each(0, 2, 62)), [2]int{200, 209}, [2]int{211, 211})},
		{"65 runs, the last two long", slices.Concat(row(300, 309), each(0, 2, 63), row(200, 209)), ones(append(each(0, 2, 63), 200))},
		{"64 runs and wrong numbers", slices.Concat(wrongs, each(4, 2, 64), wrongs), ones(each(4, 2, 64))},
		{"64 runs, each twice", slices.Concat(each(4, 2, 64), each(4, 2, 64)), ones(each(4, 2, 64))},
	} {
		if got := serial.Runs(c.l); !slices.Equal(got, c.want) {
			t.Errorf("Runs of %s: %v, want %v", c.what, got, c.want)
		}
	}
	all := serial.Runs(slices.Concat(each(0, 3, 1000), each(1, 3, 1000)))
	if len(all) != 64 || all[62] != [2]int{186, 187} || all[63] != [2]int{189, 189} {
		t.Errorf("Runs of pairs: %v", all)
	}
}

func TestRunsOfAny(t *testing.T) { // P15.5
	r := rand.New(rand.NewSource(5))
	for range 1500 {
		l := some(r, 60)
		if r.Intn(4) == 0 {
			l = append(l, each(r.Intn(200), 2+r.Intn(2), 40+r.Intn(60))...)
		}
		if got, want := serial.Runs(l), runsOf(l); !slices.Equal(got, want) {
			t.Fatalf("Runs(%v): %v, want %v", l, got, want)
		}
	}
}

func TestUnruns(t *testing.T) { // P15.6
	for _, c := range []struct {
		l    [][2]int
		most int
		want []int
	}{
		{nil, 9, nil},
		{[][2]int{}, 9, nil},
		{[][2]int{{1, 3}, {9, 8}, {5, 5}}, 9, []int{1, 2, 3, 5}},
		{[][2]int{{0, 0}}, 9, []int{0}},
		{[][2]int{{65535, 65535}}, 9, []int{65535}},
		{[][2]int{{65530, 65535}}, 9, row(65530, 65535)},
		// None, if the last one is less.
		{[][2]int{{3, 2}}, 9, nil},
		{[][2]int{{65535, 0}}, 9, nil},
		{[][2]int{{5, 1}, {1, 2}}, 9, []int{1, 2}},
		// Run by run, whatever they have.
		{[][2]int{{5, 6}, {1, 2}}, 9, []int{5, 6, 1, 2}},
		{[][2]int{{1, 3}, {2, 4}}, 9, []int{1, 2, 3, 2, 3, 4}},
		{[][2]int{{7, 7}, {7, 7}}, 9, []int{7, 7}},
		// Of those of which both numbers are right.
		{[][2]int{{-1, 3}}, 9, nil},
		{[][2]int{{65530, 65536}}, 9, nil},
		{[][2]int{{-1, 65536}}, 9, nil},
		{[][2]int{{3, -1}}, 9, nil},
		{[][2]int{{65536, 3}}, 9, nil},
		{[][2]int{{-1, -1}, {65536, 65536}, {-5, -2}}, 9, nil},
		{[][2]int{{math.MinInt, math.MaxInt}, {4, 5}, {math.MaxInt, math.MaxInt}, {0, math.MaxInt}, {math.MinInt, 5}}, 9, []int{4, 5}},
		{[][2]int{{1, 2}, {-1, 1}, {3, 1 << 16}, {4, 5}}, 9, []int{1, 2, 4, 5}},
		// The first most of all.
		{[][2]int{{1, 3}, {5, 9}}, 0, nil},
		{[][2]int{{1, 3}, {5, 9}}, 1, []int{1}},
		{[][2]int{{1, 3}, {5, 9}}, 2, []int{1, 2}},
		{[][2]int{{1, 3}, {5, 9}}, 3, []int{1, 2, 3}},
		{[][2]int{{1, 3}, {5, 9}}, 4, []int{1, 2, 3, 5}},
		{[][2]int{{1, 3}, {5, 9}}, 8, []int{1, 2, 3, 5, 6, 7, 8, 9}},
		{[][2]int{{1, 3}, {5, 9}}, 9, []int{1, 2, 3, 5, 6, 7, 8, 9}},
		{[][2]int{{1, 3}, {5, 9}}, -1, nil},
		{[][2]int{{1, 3}, {5, 9}}, math.MinInt, nil},
		{[][2]int{{1, 3}, {5, 9}}, math.MaxInt, []int{1, 2, 3, 5, 6, 7, 8, 9}},
	} {
		if got := serial.Unruns(c.l, c.most); !slices.Equal(got, c.want) {
			t.Errorf("Unruns(%v, %d): %v, want %v", c.l, c.most, got, c.want)
		}
	}
}

func TestUnrunsOfMany(t *testing.T) { // P15.6
	long := [][2]int{{0, 65535}}
	short := ones(each(0, 1, 3000))
	for _, c := range []struct{ most, want int }{
		{-1, 0}, {0, 0}, {1, 1}, {999, 999}, {1000, 1000}, {1001, 1000}, {65536, 1000}, {1<<32 + 5, 1000}, {math.MaxInt, 1000}, {math.MinInt, 0},
	} {
		for what, l := range map[string][][2]int{"one run": long, "runs of one": short, "two runs": {{0, 498}, {499, 20000}}} {
			if got := serial.Unruns(l, c.most); !slices.Equal(got, row(0, c.want-1)) {
				t.Errorf("Unruns of %s, %d: %d numbers, want %d", what, c.most, len(got), c.want)
			}
		}
	}
	if got := serial.Unruns([][2]int{{0, 65535}, {7, 7}}, 1000); !slices.Equal(got, row(0, 999)) {
		t.Errorf("Unruns of what is too long: %v", got)
	}
	if got := serial.Unruns([][2]int{{1, 998}, {7, 7}, {9, 8}, {-1, 5}, {3, 3}, {4, 4}}, 5000); !slices.Equal(got, append(row(1, 998), 7, 3)) {
		t.Errorf("Unruns of the last of a thousand: %v", got[990:])
	}
}

func TestUnrunsOfAny(t *testing.T) { // P15.6
	r := rand.New(rand.NewSource(6))
	for range 3000 {
		var l [][2]int
		for range r.Intn(9) {
			first := r.Intn(30) - 2
			l = append(l, [2]int{first, first + r.Intn(12) - 3})
			if r.Intn(9) == 0 {
				l = append(l, [2]int{both[r.Intn(len(both))], both[r.Intn(len(both))]})
			}
		}
		for _, most := range []int{r.Intn(60), r.Intn(2000), both[r.Intn(len(both))]} {
			if got, want := serial.Unruns(l, most), unrunsOf(l, most); !slices.Equal(got, want) {
				t.Fatalf("Unruns(%v, %d): %v, want %v", l, most, got, want)
			}
		}
	}
}

func TestMissing(t *testing.T) { // P15.7
	for _, c := range []struct {
		next int
		l    []int
		want []int
	}{
		{4, []int{6, 4, 9}, []int{5, 7, 8}},
		{0, nil, nil},
		{0, []int{}, nil},
		{0, []int{0}, nil},
		{0, []int{1}, []int{0}},
		{0, []int{0, 1, 2}, nil},
		{0, []int{2, 1}, []int{0}},
		// Of next and the seven behind it.
		{0, []int{7}, row(0, 6)},
		{0, []int{8}, row(0, 7)},
		{0, []int{9}, row(0, 7)},
		{0, []int{65535}, row(0, 7)},
		{10, []int{65535, 9, 8, 18, 10, 17}, row(11, 16)},
		{10, []int{18, 12, 14}, []int{10, 11, 13, 15, 16, 17}},
		{10, row(10, 18), nil},
		{10, append(row(10, 16), 18), []int{17}},
		// Above which it has one.
		{10, []int{10, 12}, []int{11}},
		{10, []int{12, 10}, []int{11}},
		{10, []int{12, 12, 12}, []int{10, 11}},
		{10, []int{9}, nil},
		{10, []int{0, 9}, nil},
		{10, []int{10}, nil},
		{10, []int{11}, []int{10}},
		// Just a right number counts there.
		{10, []int{65536}, nil},
		{10, []int{12, 65536}, []int{10, 11}},
		{10, []int{math.MaxInt}, nil},
		{10, []int{1 << 32, -1, math.MinInt}, nil},
		{10, []int{-1, 12, math.MaxInt}, []int{10, 11}},
		// As far as they are right.
		{65530, []int{65535}, row(65530, 65534)},
		{65530, []int{65536, 65537, 65538}, nil},
		{65530, []int{65533, 65537}, row(65530, 65532)},
		{65534, []int{65535}, []int{65534}},
		{65535, []int{65535}, nil},
		{65535, []int{65536, 0}, nil},
		{65536, []int{65535, 65540}, nil},
		{65536, []int{0, 1}, nil}, // they never begin anew
		{math.MaxInt, []int{math.MaxInt, 65535, 5, math.MinInt}, nil},
		{math.MaxInt - 7, []int{math.MaxInt}, nil},
		{-1, []int{9}, row(0, 6)},
		{-3, []int{2}, []int{0, 1}},
		{-3, []int{9, 2}, []int{0, 1, 3, 4}},
		{-6, []int{9}, []int{0, 1}},
		{-7, []int{9}, []int{0}},
		{-7, []int{0}, nil},
		{-8, []int{9}, nil},
		{-9, []int{9}, nil},
		{-3, []int{-1, -2}, nil},
		{-9, []int{-2}, nil},
		{math.MinInt, []int{9, 65535, math.MaxInt}, nil},
		{math.MinInt, []int{math.MinInt + 2}, nil},
		{5 - 1<<32, []int{9}, nil},
	} {
		if got := serial.Missing(c.next, c.l); !slices.Equal(got, c.want) {
			t.Errorf("Missing(%d, %v): %v, want %v", c.next, c.l, got, c.want)
		}
	}
}

func TestMissingOfAny(t *testing.T) { // P15.7
	r := rand.New(rand.NewSource(7))
	for range 1500 {
		l := some(r, 12)
		nexts := []int{both[r.Intn(len(both))], r.Intn(20) - 10}
		if len(l) > 0 {
			nexts = append(nexts, clean(append(l, 3))[0]-r.Intn(4), l[r.Intn(len(l))])
		}
		for _, next := range nexts {
			if got, want := serial.Missing(next, l), missingOf(next, l); !slices.Equal(got, want) {
				t.Fatalf("Missing(%d, %v): %v, want %v", next, l, got, want)
			}
		}
	}
}

func TestOneBehindTheOther(t *testing.T) { // P15.8
	n, many := 0, 0
	for {
		next, err := serial.Next(n)
		if err != api.OK {
			if err != api.ErrWrap || next != 0 {
				t.Errorf("Next(%d): %d, %d", n, next, err)
			}
			break
		}
		if next <= n || serial.Ahead(next, n) != 1 || serial.Ahead(n, next) != -1 || !serial.Right(next) {
			t.Fatalf("Next(%d): %d", n, next)
		}
		if many++; many > 70000 {
			t.Fatalf("more than %d follow", many)
		}
		n = next
	}
	if many != 65000 || n != api.LastSeq {
		t.Errorf("%d follow, up to %d", many, n)
	}
	for n := 65000; n <= 65535; n++ {
		if next, err := serial.Next(n); next != 0 || err != api.ErrWrap {
			t.Fatalf("Next(%d): %d, %d", n, next, err)
		}
	}
}

// comesBack looks whether Unruns of Runs has just the right numbers of l, rising, each once.
func comesBack(t *testing.T, l []int) {
	t.Helper()
	if got, want := serial.Unruns(serial.Runs(l), 1000), clean(l); !slices.Equal(got, want) {
		t.Fatalf("Unruns of Runs(%v): %v, want %v", l, got, want)
	}
}

func TestUnrunsOfRuns(t *testing.T) { // P15.9
	for _, l := range [][]int{
		nil, {0}, {65535, 0}, {3, 1, 2, 1}, wrongs, both,
		each(0, 2, 63), each(0, 2, 64), backwards(each(0, 5, 64)),
		row(-50, 949), row(5, 1004), row(64600, 70000), slices.Concat(row(20, 400), each(500, 3, 60), row(30, 300)),
	} {
		comesBack(t, l)
	}
	r := rand.New(rand.NewSource(9))
	for range 1500 {
		comesBack(t, some(r, 60))
	}
	if got := serial.Unruns(serial.Runs(each(0, 2, 65)), 1000); !slices.Equal(got, each(0, 2, 64)) {
		t.Errorf("Unruns of Runs of too many: %v", got)
	}
}

func TestMissingComes(t *testing.T) { // P15.7
	r := rand.New(rand.NewSource(10))
	for range 500 {
		l := some(r, 8)
		next := r.Intn(12) - 2
		gaps := serial.Missing(next, l)
		for _, n := range gaps {
			if !serial.Near(n, max(next, 0)) || slices.Contains(l, n) {
				t.Fatalf("Missing(%d, %v): %v", next, l, gaps)
			}
		}
		if more := serial.Missing(next, slices.Concat(gaps, l)); len(more) != 0 {
			t.Fatalf("Missing(%d, %v): %v, and when these came %v", next, l, gaps, more)
		}
	}
}

// held is a list with room behind its end, and all of that memory.
func held[T any](l []T, behind ...T) ([]T, []T) {
	whole := slices.Concat(l, behind)
	return whole[:len(l)], whole
}

func TestArgumentsStay(t *testing.T) { // R3
	for _, numbers := range [][]int{nil, {5}, {5, 1, 2, 2, 9, 3}, {9, -1, 65536, 3, 3, math.MaxInt}, backwards(each(0, 2, 100))} {
		l, whole := held(numbers, 7, 6, 5)
		want := slices.Clone(whole)
		serial.Runs(l)
		serial.Missing(4, l)
		if !slices.Equal(whole, want) {
			t.Errorf("what was handed in was changed: %v, want %v", whole, want)
		}
	}
	for _, runs := range [][][2]int{nil, {{1, 3}}, {{9, 8}, {5, 7}, {-1, 2}, {1, 3}}, ones(row(0, 1200))} {
		l, whole := held(runs, [2]int{1, 1}, [2]int{2, 2})
		want := slices.Clone(whole)
		serial.Unruns(l, 1000)
		serial.Unruns(l, 2)
		if !slices.Equal(whole, want) {
			t.Errorf("what was handed in was changed: %v, want %v", whole, want)
		}
	}
}

// fillAll puts n over all of l, and over what it has room for behind.
func fillAll[T any](l []T, n T) {
	l = l[:cap(l)]
	for i := range l {
		l[i] = n
	}
}

func TestAnswersAreNewMemory(t *testing.T) { // R3
	rising, _ := held([]int{1, 2, 3, 8}, 9, 10)
	runs, _ := held([][2]int{{1, 3}, {5, 5}}, [2]int{7, 9})
	want := serial.Runs(rising)
	fillAll(serial.Runs(rising), [2]int{77, 78})
	fillAll(serial.Missing(0, rising), 77)
	fillAll(serial.Unruns(runs, 9), 77)
	if !slices.Equal(rising, []int{1, 2, 3, 8}) || !slices.Equal(runs, [][2]int{{1, 3}, {5, 5}}) || !slices.Equal(want, [][2]int{{1, 3}, {8, 8}}) {
		t.Errorf("an answer shares memory: %v, %v, %v", rising, runs, want)
	}
	if got := serial.Runs(rising); !slices.Equal(got, want) {
		t.Errorf("an answer is kept: %v", got)
	}
}

func TestGreatLists(t *testing.T) { // R1
	r := rand.New(rand.NewSource(1))
	var l []int
	for range 1 << 20 {
		l = append(l, r.Intn(1<<18)-1<<16)
	}
	if got, want := serial.Runs(l), runsOf(l); !slices.Equal(got, want) {
		t.Errorf("Runs of a million: %v, want %v", got, want)
	}
	if got, want := serial.Missing(100, l), missingOf(100, l); !slices.Equal(got, want) {
		t.Errorf("Missing of a million: %v, want %v", got, want)
	}
	if got := serial.Unruns(make([][2]int, 1<<20), math.MaxInt); !slices.Equal(got, make([]int, 1000)) {
		t.Errorf("Unruns of a million: %v", got)
	}
}

// numbers is a number of each two bytes of b, near others, and with wrong ones among them.
func numbers(b []byte) []int {
	var l []int
	for i := 0; i+1 < len(b) && i < 600; i += 2 {
		n := int(int8(b[i]))
		if b[i+1]%4 == 0 {
			n = both[int(b[i+1]/4)%len(both)] + n%5
		}
		l = append(l, n)
	}
	return l
}

// FuzzSerial holds what the calls say of any numbers against the chapter's words (P15.1 to P15.9).
func FuzzSerial(f *testing.F) {
	f.Add([]byte{5, 1, 1, 1, 2, 1, 2, 1, 9, 1, 3, 1}, 4, 4, 9)
	f.Add([]byte{0, 0, 255, 4, 1, 8, 7, 12}, math.MinInt, math.MaxInt, 1001)
	f.Add([]byte{}, 65535, 65528, -1)
	f.Fuzz(func(t *testing.T, b []byte, n, next, most int) {
		l := numbers(b)
		if got, want := serial.Runs(l), runsOf(l); !slices.Equal(got, want) {
			t.Fatalf("Runs(%v): %v, want %v", l, got, want)
		}
		for _, next := range []int{n, next, next & 65535, next&63 - 20} {
			if got, want := serial.Missing(next, l), missingOf(next, l); !slices.Equal(got, want) {
				t.Fatalf("Missing(%d, %v): %v, want %v", next, l, got, want)
			}
		}
		var runs [][2]int
		for i := 1; i < len(l); i += 2 {
			runs = append(runs, [2]int{l[i-1], l[i]})
		}
		if got, want := serial.Unruns(runs, most), unrunsOf(runs, most); !slices.Equal(got, want) {
			t.Fatalf("Unruns(%v, %d): %v, want %v", runs, most, got, want)
		}
		if ahead := serial.Ahead(n, next); (ahead >= 0) != (isRight(n) && isRight(next) && n >= next) || ahead >= 0 && next+ahead != n || ahead < -1 {
			t.Fatalf("Ahead(%d, %d): %d", n, next, ahead)
		}
		if len(serial.Runs(l)) < 64 && len(clean(l)) <= 1000 {
			comesBack(t, l)
		}
	})
}
