package window_test

import (
	"cmp"
	"math"
	"math/rand"
	"slices"
	"testing"

	"fingerpost/api"
	"fingerpost/item"
	"fingerpost/window"
)

// edges are numbers that are right, and that are not, with those at the ends of int among them.
var edges = []int{0, 1, 2, 7, 8, 9, 255, 256, 32767, 32768, 64999, 65000, 65001, 65527, 65528, 65529, 65534, 65535, 65536, 65537, 65543, 1 << 17, 1<<31 - 1, 1 << 31, 1 << 32, 1<<32 + 5, -1, -2, -7, -8, -65535, -65536, -1 << 31, math.MinInt, math.MinInt + 1, math.MinInt + 8, math.MaxInt, math.MaxInt - 1, math.MaxInt - 7, math.MaxInt - 8}

// told is so many items of parts, right ones if they are at most six, another list for each many and dest.
func told(many, dest int) []api.Item {
	var l []api.Item
	for i := range many {
		l = append(l, api.Item{Dest: dest % 16, Kind: i % 3, Dist: uint32(5 + i), Pred: (dest + 1) % 16})
	}
	return l
}

// piece is the part of that number, unlike those of the numbers near it in all its fields.
func piece(seq int) api.Part {
	n := seq & 15
	p := api.Part{From: n, Seq: seq, More: n%2 == 1, Items: told(n%7, n)}
	p.Pair.Mine.Boot, p.Pair.Theirs.Local = uint32(n+1), uint32(n+3)
	return p
}

// pieces are the parts of those numbers.
func pieces(seqs ...int) []api.Part {
	var l []api.Part
	for _, seq := range seqs {
		l = append(l, piece(seq))
	}
	return l
}

// of is the window of that next number, with the parts of those numbers ahead.
func of(next int, seqs ...int) api.Window {
	return api.Window{Next: next, Ahead: pieces(seqs...)}
}

// row is the numbers from first to last.
func row(first, last int) []int {
	var l []int
	for n := first; n <= last; n++ {
		l = append(l, n)
	}
	return l
}

// numbers is the numbers of the parts of l.
func numbers(l []api.Part) []int {
	var seqs []int
	for _, p := range l {
		seqs = append(seqs, p.Seq)
	}
	return seqs
}

// alike tells by the fields whether a and b are the same.
func alike(a, b api.Part) bool {
	return a.From == b.From && a.Pair == b.Pair && a.Seq == b.Seq && a.More == b.More && slices.Equal(a.Items, b.Items)
}

// allAlike tells whether a and b have the same parts, in order.
func allAlike(a, b []api.Part) bool {
	return slices.EqualFunc(a, b, alike)
}

// like tells by the fields whether a and b are the same.
func like(a, b api.Window) bool {
	return a.Next == b.Next && allAlike(a.Ahead, b.Ahead)
}

// deep is l in memory of its own, all of it.
func deep(l []api.Part) []api.Part {
	var own []api.Part
	for _, p := range l {
		p.Items = append([]api.Item(nil), p.Items...)
		own = append(own, p)
	}
	return own
}

// isRight tells by chapter 8's words whether p is right.
func isRight(p api.Part) bool {
	for _, x := range p.Items {
		if !item.Right(x) {
			return false
		}
	}
	return 6*len(p.Items) <= 40 && p.From >= 0 && p.From < 16 && isNumber(p.Seq)
}

// isNumber tells by chapter 15's words whether n is right.
func isNumber(n int) bool {
	return n >= 0 && n <= 65535
}

// errOf is Take's error by the chapter's words.
func errOf(w api.Window, p api.Part) api.Errno {
	if !isRight(p) {
		return api.ErrArg
	}
	if !isNumber(w.Next) {
		return api.ErrArg
	}
	if p.Seq < w.Next {
		return api.ErrOld
	}
	if p.Seq > w.Next+7 {
		return api.ErrFull
	}
	for _, q := range w.Ahead {
		if q.Seq == p.Seq {
			return api.ErrOld
		}
	}
	return api.OK
}

// takeOf is Take by the chapter's words, a step at a time.
func takeOf(w api.Window, p api.Part) (api.Window, []api.Part, api.Errno) {
	w.Ahead = deep(w.Ahead)
	if err := errOf(w, p); err != api.OK {
		return w, nil, err
	}
	var ahead []api.Part
	stands := false
	for _, q := range w.Ahead {
		if q.Seq > p.Seq && !stands {
			ahead = append(ahead, p)
			stands = true
		}
		ahead = append(ahead, q)
	}
	if !stands {
		ahead = append(ahead, p)
	}
	var out []api.Part
	next := w.Next
	for len(ahead) > 0 && ahead[0].Seq == next {
		out = append(out, ahead[0])
		ahead = ahead[1:]
		next++
	}
	return api.Window{Next: next, Ahead: ahead}, out, api.OK
}

// isSound is Sound by the chapter's words.
func isSound(w api.Window) bool {
	for i, p := range w.Ahead {
		if i > 0 && p.Seq <= w.Ahead[i-1].Seq {
			return false
		}
		if !isNumber(p.Seq) || !isNumber(w.Next) || p.Seq <= w.Next || p.Seq-w.Next >= 8 {
			return false
		}
	}
	return w.Next >= 0
}

// gapsOf is Gaps by the words of chapter 15.
func gapsOf(w api.Window) []int {
	var gaps []int
	for i := range 8 {
		n, is, above := w.Next+i, false, false
		if n < w.Next || !isNumber(n) {
			continue
		}
		for _, p := range w.Ahead {
			is = is || p.Seq == n
			above = above || isNumber(p.Seq) && p.Seq > n
		}
		if !is && above {
			gaps = append(gaps, n)
		}
	}
	return gaps
}

// bitsOf is the bits of Bits by the words of chapter 9.
func bitsOf(w api.Window) int {
	bits := 0
	for _, p := range w.Ahead {
		for i := range 8 {
			if w.Next >= 0 && p.Seq >= w.Next && p.Seq-w.Next == i {
				bits |= 1 << i
			}
		}
	}
	return bits
}

// takes looks whether Take of w and p answers what takeOf answers, and answers that.
func takes(t *testing.T, w api.Window, p api.Part) (api.Window, []api.Part, api.Errno) {
	t.Helper()
	got, out, err := window.Take(w, p)
	want, wantOut, wantErr := takeOf(w, p)
	if !like(got, want) || !allAlike(out, wantOut) || err != wantErr {
		t.Fatalf("Take(%v, %v): %v, %v, %d, want %v, %v, %d", w, p, got, out, err, want, wantOut, wantErr)
	}
	return got, out, err
}

// anyNext is a next number, often one of edges.
func anyNext(r *rand.Rand) int {
	switch r.Intn(3) {
	case 0:
		return edges[r.Intn(len(edges))]
	case 1:
		return 65520 + r.Intn(20)
	}
	return r.Intn(12) - 2
}

// near is a number near n, or one of edges.
func near(r *rand.Rand, n int) int {
	if r.Intn(12) == 0 || n > math.MaxInt-20 || n < math.MinInt+20 {
		return edges[r.Intn(len(edges))]
	}
	return n + r.Intn(12) - 2
}

// anyWindow is a window, sound or not.
func anyWindow(r *rand.Rand) api.Window {
	w := api.Window{Next: anyNext(r)}
	for range r.Intn(10) {
		w.Ahead = append(w.Ahead, piece(near(r, w.Next)))
	}
	if r.Intn(3) > 0 {
		slices.SortFunc(w.Ahead, func(a, b api.Part) int { return cmp.Compare(a.Seq, b.Seq) })
	}
	if r.Intn(3) > 0 {
		w.Ahead = slices.CompactFunc(w.Ahead, func(a, b api.Part) bool { return a.Seq == b.Seq })
	}
	return w
}

// soundWindow is a window that is sound, with a next number at which parts may come.
func soundWindow(r *rand.Rand) api.Window {
	w := api.Window{Next: []int{0, 1, 300, 64995, 65520, 65526, 65528, 65531, 65535}[r.Intn(9)]}
	for i := 1; i < 8 && w.Next+i <= 65535; i++ {
		if r.Intn(2) == 0 {
			w.Ahead = append(w.Ahead, piece(w.Next+i))
		}
	}
	return w
}

func TestNew(t *testing.T) { // P16.1
	if w := window.New(); w.Next != 0 || len(w.Ahead) != 0 {
		t.Errorf("New: %v", w)
	}
	a := window.New()
	a.Next, a.Ahead = 7, pieces(9)
	if w := window.New(); w.Next != 0 || len(w.Ahead) != 0 {
		t.Errorf("New, once more: %v", w)
	}
}

// coming is a part that comes to a window, and what becomes of both, all by numbers.
type coming struct {
	next  int
	ahead []int
	seq   int
	on    int   // what is next then
	left  []int // what is ahead then
	out   []int
	err   api.Errno
}

// comeTo looks whether Take answers of each what it tells.
func comeTo(t *testing.T, l []coming) {
	t.Helper()
	for _, c := range l {
		got, out, err := window.Take(of(c.next, c.ahead...), piece(c.seq))
		if !like(got, of(c.on, c.left...)) || !allAlike(out, pieces(c.out...)) || err != c.err {
			t.Errorf("Take of %d to %d, %v: %d, %v, %v, %d, want %d, %v, %v, %d", c.seq, c.next, c.ahead, got.Next, numbers(got.Ahead), numbers(out), err, c.on, c.left, c.out, c.err)
		}
	}
}

func TestTake(t *testing.T) { // P16.2
	comeTo(t, []coming{
		// Its turn has come.
		{0, nil, 0, 1, nil, []int{0}, api.OK},
		{5, nil, 5, 6, nil, []int{5}, api.OK},
		{65534, nil, 65534, 65535, nil, []int{65534}, api.OK},
		{65535, nil, 65535, 65536, nil, []int{65535}, api.OK},
		{0, []int{1}, 0, 2, nil, []int{0, 1}, api.OK},
		{0, []int{2}, 0, 1, []int{2}, []int{0}, api.OK},
		{0, []int{1, 3}, 0, 2, []int{3}, []int{0, 1}, api.OK},
		{5, []int{6, 7, 9, 10, 12}, 5, 8, []int{9, 10, 12}, row(5, 7), api.OK},
		{0, row(1, 7), 0, 8, nil, row(0, 7), api.OK},
		{65528, row(65529, 65535), 65528, 65536, nil, row(65528, 65535), api.OK},
		// It stands ahead.
		{0, nil, 1, 0, []int{1}, nil, api.OK},
		{0, nil, 7, 0, []int{7}, nil, api.OK},
		{0, []int{7}, 1, 0, []int{1, 7}, nil, api.OK},
		{0, []int{1}, 7, 0, []int{1, 7}, nil, api.OK},
		{0, []int{1, 7}, 4, 0, []int{1, 4, 7}, nil, api.OK},
		{5, []int{7, 9, 11}, 12, 5, []int{7, 9, 11, 12}, nil, api.OK},
		{5, []int{7, 9, 11}, 6, 5, []int{6, 7, 9, 11}, nil, api.OK},
		{65528, nil, 65535, 65528, []int{65535}, nil, api.OK},
		{0, []int{1, 2, 3, 4, 5, 6}, 7, 0, row(1, 7), nil, api.OK},
		{5, row(7, 12), 6, 5, row(6, 12), nil, api.OK},
		// It is below Next.
		{1, nil, 0, 1, nil, nil, api.ErrOld},
		{9, []int{11}, 8, 9, []int{11}, nil, api.ErrOld},
		{9, []int{11}, 0, 9, []int{11}, nil, api.ErrOld},
		{65535, nil, 0, 65535, nil, nil, api.ErrOld},
		{65535, nil, 65534, 65535, nil, nil, api.ErrOld},
		// It is too far ahead, though there is room.
		{0, nil, 8, 0, nil, nil, api.ErrFull},
		{0, []int{3}, 8, 0, []int{3}, nil, api.ErrFull},
		{5, []int{7}, 13, 5, []int{7}, nil, api.ErrFull},
		{5, row(6, 12), 13, 5, row(6, 12), nil, api.ErrFull},
		{0, nil, 65535, 0, nil, nil, api.ErrFull},
		{65527, nil, 65535, 65527, nil, nil, api.ErrFull},
		// It is there.
		{0, []int{1}, 1, 0, []int{1}, nil, api.ErrOld},
		{0, []int{1, 7}, 7, 0, []int{1, 7}, nil, api.ErrOld},
		{5, []int{6, 8, 12}, 8, 5, []int{6, 8, 12}, nil, api.ErrOld},
		{65528, []int{65535}, 65535, 65528, []int{65535}, nil, api.ErrOld},
	})
}

func TestTakeOfWrongParts(t *testing.T) { // P16.2
	wrongs := map[string]api.Part{
		"no node":               {From: 16},
		"below all nodes":       {From: -1},
		"a node in low bytes":   {From: 256},
		"the least int's node":  {From: math.MinInt},
		"number below 0":        {Seq: -1},
		"number too great":      {Seq: 65536},
		"number in low bytes":   {Seq: 1<<32 + 1},
		"the least int":         {Seq: math.MinInt},
		"the greatest int":      {Seq: math.MaxInt},
		"seven items":           {Items: told(7, 3)},
		"an item of no node":    {Items: []api.Item{{Dest: 16, Dist: 1, Pred: 2}}},
		"an item of no kind":    {Items: []api.Item{{Dest: 1, Kind: 3, Dist: 1, Pred: 2}}},
		"a wrong item behind":   {Items: append(told(2, 4), api.Item{Dest: 1, Kind: -1, Dist: 1, Pred: 2})},
		"an old one of no node": {From: 16, Seq: 3},
		"a far one of no node":  {From: 16, Seq: 60000},
		"one there of no node":  {From: 16, Seq: 7},
		"a zero item":           {Seq: 5, Items: make([]api.Item, 1)},
	}
	for what, p := range wrongs {
		for _, w := range []api.Window{of(0), of(5, 7, 9), of(65535), of(-1), of(65536), of(7, 7), of(4, 9, 5)} {
			if isRight(p) {
				t.Fatalf("%s: a right part", what)
			}
			got, out, err := window.Take(w, p)
			if !like(got, w) || len(out) != 0 || err != api.ErrArg {
				t.Errorf("Take of %s to %d, %v: %v, %v, %d", what, w.Next, numbers(w.Ahead), got, out, err)
			}
		}
	}
}

func TestTakeOfWrongNexts(t *testing.T) { // P16.2
	for _, next := range edges {
		if isNumber(next) {
			continue
		}
		for _, ahead := range [][]int{nil, {0}, {3, 65535}, {next}} {
			for _, seq := range []int{0, 1, 5, 7, 8, 65000, 65534, 65535} {
				w := of(next, ahead...)
				got, out, err := window.Take(w, piece(seq))
				if !like(got, w) || len(out) != 0 || err != api.ErrArg {
					t.Errorf("Take of %d to %d, %v: %v, %v, %d", seq, next, ahead, got, out, err)
				}
			}
		}
	}
}

func TestTakeOfEachNumber(t *testing.T) { // P16.2
	for _, next := range []int{0, 1, 8, 1000, 64995, 65000, 65520, 65528, 65530, 65535} {
		w := of(next)
		if next < 65530 {
			w = of(next, next+2, next+3, next+6)
		}
		for seq := 0; seq <= 65535; seq++ {
			if seq > 20 && seq < next-20 || seq > next+20 && seq < 65500 {
				continue
			}
			takes(t, w, piece(seq))
		}
		for _, seq := range edges {
			takes(t, w, piece(seq))
		}
	}
}

func TestTakeToAnyWindow(t *testing.T) { // P16.2
	r := rand.New(rand.NewSource(2))
	for range 40000 {
		w := anyWindow(r)
		if r.Intn(2) == 0 {
			w = soundWindow(r)
		}
		p := piece(near(r, w.Next))
		if r.Intn(9) == 0 {
			p.From = edges[r.Intn(len(edges))]
		}
		takes(t, w, p)
	}
}

func TestTakeToUnsoundWindows(t *testing.T) { // P16.2
	comeTo(t, []coming{
		// One whose turn has come is let out with the next part, whichever comes.
		{5, []int{5}, 6, 7, nil, []int{5, 6}, api.OK},
		{5, []int{5, 6}, 9, 7, []int{9}, []int{5, 6}, api.OK},
		{5, []int{5}, 5, 5, []int{5}, nil, api.ErrOld},
		// They don't rise: p stands ahead of the first greater one, and just the first one is let out.
		{5, []int{9, 7}, 8, 5, []int{8, 9, 7}, nil, api.OK},
		{5, []int{9, 7}, 10, 5, []int{9, 7, 10}, nil, api.OK},
		{5, []int{7, 6}, 5, 6, []int{7, 6}, []int{5}, api.OK},
		{5, []int{6, 9, 7}, 5, 7, []int{9, 7}, []int{5, 6}, api.OK},
		{5, []int{9, 5}, 6, 5, []int{6, 9, 5}, nil, api.OK},
		// One is there behind a greater one.
		{5, []int{9, 7}, 7, 5, []int{9, 7}, nil, api.ErrOld},
		{5, []int{12, 8, 5}, 5, 5, []int{12, 8, 5}, nil, api.ErrOld},
		// One is there twice.
		{5, []int{6, 6}, 5, 7, []int{6}, []int{5, 6}, api.OK},
		{5, []int{7, 7}, 7, 5, []int{7, 7}, nil, api.ErrOld},
		// One below Next at the head keeps all others back.
		{5, []int{2}, 5, 5, []int{2, 5}, nil, api.OK},
		{5, []int{2, 6}, 5, 5, []int{2, 5, 6}, nil, api.OK},
		{5, []int{6, 2}, 5, 7, []int{2}, []int{5, 6}, api.OK},
		{5, []int{2}, 2, 5, []int{2}, nil, api.ErrOld},
		// Those that are too far ahead, or no numbers, stand as others do.
		{5, []int{60}, 6, 5, []int{6, 60}, nil, api.OK},
		{5, []int{60}, 60, 5, []int{60}, nil, api.ErrFull},
		{5, []int{math.MinInt}, 5, 5, []int{math.MinInt, 5}, nil, api.OK},
		{5, []int{math.MaxInt}, 5, 6, []int{math.MaxInt}, []int{5}, api.OK},
		{65535, []int{65536, 65537, 65539}, 65535, 65538, []int{65539}, []int{65535, 65536, 65537}, api.OK},
		// More are ahead than there is room for.
		{5, row(20, 40), 6, 5, append([]int{6}, row(20, 40)...), nil, api.OK},
		{5, row(6, 40), 5, 41, nil, row(5, 40), api.OK},
	})
}

func TestTakeKeepsParts(t *testing.T) { // P16.2
	// The parts that are let out are those that came, all of each, whoever sent them: of one number it is the first one.
	first, again := piece(1), piece(1)
	first.From, again.From = 4, 5
	first.Items, again.Items = told(6, 1), nil
	w, _, _ := window.Take(window.New(), first)
	w, out, err := window.Take(w, again)
	if !like(w, api.Window{Ahead: []api.Part{first}}) || len(out) != 0 || err != api.ErrOld {
		t.Errorf("Take of another one of that number: %v, %v, %d", w, out, err)
	}
	start := api.Part{From: 9, More: true}
	if w, out, err = window.Take(w, start); !like(w, of(2)) || !allAlike(out, []api.Part{start, first}) || err != api.OK {
		t.Errorf("Take of what was waited for: %v, %v, %d", w, out, err)
	}
}

func TestExample(t *testing.T) { // P16.2, the chapter's example
	w, out, err := window.Take(window.New(), piece(1))
	if !like(w, of(0, 1)) || len(out) != 0 || err != api.OK {
		t.Errorf("Take of 1: %v, %v, %d", w, out, err)
	}
	w, out, err = window.Take(w, piece(0))
	if !like(w, of(2)) || !allAlike(out, pieces(0, 1)) || err != api.OK {
		t.Errorf("Take of 0: %v, %v, %d", w, out, err)
	}
}

func TestBits(t *testing.T) { // P16.3
	for _, c := range []struct {
		w    api.Window
		bits int
	}{
		{of(0), 0},
		{of(9), 0},
		{of(0, 1), 2},
		{of(0, 7), 128},
		{of(0, row(1, 7)...), 254},
		{of(5, 7), 4},
		{of(5, 6, 8, 12), 2 + 8 + 128},
		{of(65534, 65535), 2},
		{of(65535), 0},
		{of(65536), 0},
		// Of windows that are not sound.
		{of(5, 5), 1},
		{of(5, 13), 0},
		{of(5, 4), 0},
		{of(5, 4, 5, 12, 13), 129},
		{of(5, 8, 6), 10},
		{of(5, 6, 6, 6), 2},
		{of(-1, 0, 1), 0},
		{of(math.MinInt, math.MinInt, math.MaxInt), 0},
		{of(math.MaxInt, math.MinInt, 5), 0},
	} {
		if next, bits := window.Bits(c.w); next != c.w.Next || bits != c.bits {
			t.Errorf("Bits of %d, %v: %d, %d, want %d", c.w.Next, numbers(c.w.Ahead), next, bits, c.bits)
		}
	}
	r := rand.New(rand.NewSource(3))
	for range 20000 {
		w := anyWindow(r)
		if next, bits := window.Bits(w); next != w.Next || bits != bitsOf(w) {
			t.Fatalf("Bits of %d, %v: %d, %d, want %d", w.Next, numbers(w.Ahead), next, bits, bitsOf(w))
		}
	}
}

// others are windows of which each is another than w, which has three parts ahead.
func others(w api.Window) map[string]api.Window {
	m := map[string]api.Window{}
	for what, change := range map[string]func(*api.Window){
		"next":       func(w *api.Window) { w.Next++ },
		"next below": func(w *api.Window) { w.Next-- },
		"one less":   func(w *api.Window) { w.Ahead = w.Ahead[:2] },
		"the others": func(w *api.Window) { w.Ahead = w.Ahead[1:] },
		"one more":   func(w *api.Window) { w.Ahead = append(w.Ahead, piece(99)) },
		"none":       func(w *api.Window) { w.Ahead = nil },
		"order":      func(w *api.Window) { w.Ahead[0], w.Ahead[1] = w.Ahead[1], w.Ahead[0] },
		"twice":      func(w *api.Window) { w.Ahead[1] = w.Ahead[0] },
		"from":       func(w *api.Window) { w.Ahead[0].From++ },
		"mine":       func(w *api.Window) { w.Ahead[1].Pair.Mine.Local++ },
		"theirs":     func(w *api.Window) { w.Ahead[2].Pair.Theirs.Boot++ },
		"number":     func(w *api.Window) { w.Ahead[2].Seq++ },
		"more":       func(w *api.Window) { w.Ahead[2].More = !w.Ahead[2].More },
		"an item":    func(w *api.Window) { w.Ahead[1].Items[0].Dist++ },
		"last item":  func(w *api.Window) { w.Ahead[2].Items[3].Kind++ },
		"no items":   func(w *api.Window) { w.Ahead[0].Items = nil },
		"item less":  func(w *api.Window) { w.Ahead[1].Items = w.Ahead[1].Items[:2] },
		"item more":  func(w *api.Window) { w.Ahead[1].Items = append(w.Ahead[1].Items, api.Item{}) },
	} {
		other := api.Window{Next: w.Next, Ahead: deep(w.Ahead)}
		change(&other)
		m[what] = other
	}
	return m
}

func TestSame(t *testing.T) { // P16.4
	w := of(17, 18, 19, 20)
	if !window.Same(w, of(17, 18, 19, 20)) {
		t.Error("Same of a window and its like: false")
	}
	for what, other := range others(w) {
		if window.Same(w, other) || window.Same(other, w) {
			t.Errorf("Same, but for %s: true", what)
		}
		if !window.Same(other, api.Window{Next: other.Next, Ahead: deep(other.Ahead)}) {
			t.Errorf("Same of one with other %s, and its like: false", what)
		}
	}
	// No list is as one that is empty.
	if !window.Same(api.Window{}, api.Window{Ahead: []api.Part{}}) || !window.Same(api.Window{Ahead: []api.Part{}}, window.New()) {
		t.Error("Same of nothing ahead, and of an empty list: false")
	}
	none, empty := api.Part{Seq: 3}, api.Part{Seq: 3, Items: []api.Item{}}
	if !window.Same(api.Window{Ahead: []api.Part{none}}, api.Window{Ahead: []api.Part{empty}}) {
		t.Error("Same of no items, and of an empty list: false")
	}
	for _, n := range edges {
		for _, m := range edges {
			if got := window.Same(of(n, 5), of(m, 5)); got != (n == m) {
				t.Errorf("Same of next %d and %d: %t", n, m, got)
			}
			if got := window.Same(of(5, n), of(5, m)); got != (n == m) {
				t.Errorf("Same of one ahead, %d and %d: %t", n, m, got)
			}
		}
	}
}

func TestSound(t *testing.T) { // P16.5
	for _, c := range []struct {
		w    api.Window
		want bool
	}{
		{window.New(), true},
		{of(0, 1), true},
		{of(0, 7), true},
		{of(0, row(1, 7)...), true},
		{of(9, 10, 12, 16), true},
		{of(65528, row(65529, 65535)...), true},
		{of(65534, 65535), true},
		// Nothing is ahead: just Next counts.
		{of(65535), true},
		{of(65536), true},
		{of(1 << 40), true},
		{of(math.MaxInt), true},
		{of(-1), false},
		{of(math.MinInt), false},
		// Not above Next.
		{of(0, 0), false},
		{of(9, 9), false},
		{of(9, 8), false},
		{of(9, 9, 10), false},
		{of(9, 8, 10), false},
		{of(9, 0), false},
		{of(1, 0), false},
		{of(0, -1), false},
		{of(9, math.MinInt), false},
		// By too much.
		{of(0, 8), false},
		{of(9, 17), false},
		{of(9, 10, 17), false},
		{of(0, row(1, 8)...), false},
		{of(0, 65535), false},
		{of(0, math.MaxInt), false},
		// They don't rise.
		{of(9, 11, 10), false},
		{of(9, 10, 12, 11), false},
		{of(9, 10, 10), false},
		{of(9, 10, 12, 12), false},
		{of(9, 12, 10, 13), false},
		// Not numbers in a row.
		{of(65535, 65536), false},
		{of(65534, 65535, 65536), false},
		{of(65530, 65536), false},
		{of(65536, 65537), false},
		{of(65535, 0), false},
		{of(-1, 0), false},
		{of(-1, 1), false},
		{of(-2, -1), false},
		{of(math.MinInt, math.MaxInt), false},
		{of(math.MaxInt-1, math.MaxInt), false},
		{of(math.MinInt, math.MinInt+1), false},
		{of(math.MaxInt, math.MinInt), false},
	} {
		if got := window.Sound(c.w); got != c.want {
			t.Errorf("Sound of %d, %v: %t", c.w.Next, numbers(c.w.Ahead), got)
		}
	}
}

func TestSoundOfAny(t *testing.T) { // P16.5
	r := rand.New(rand.NewSource(5))
	sound := 0
	for range 40000 {
		for _, w := range []api.Window{anyWindow(r), soundWindow(r)} {
			got := window.Sound(w)
			if got != isSound(w) {
				t.Fatalf("Sound of %d, %v: %t", w.Next, numbers(w.Ahead), got)
			}
			if got {
				sound++
			}
		}
	}
	if sound < 41000 || sound > 75000 {
		t.Errorf("%d of the windows are sound: too few, or too many, to tell much", sound)
	}
	// What else parts have does not count.
	wrong := of(3, 4, 5)
	wrong.Ahead[0].From, wrong.Ahead[1].Items = 99, told(20, 5)
	if !window.Sound(wrong) {
		t.Error("Sound of parts that are not right: false")
	}
}

func TestGaps(t *testing.T) { // P16.6
	for _, c := range []struct {
		w    api.Window
		want []int
	}{
		{window.New(), nil},
		{of(9), nil},
		{of(0, 1), []int{0}},
		{of(0, 3), []int{0, 1, 2}},
		{of(0, 7), row(0, 6)},
		{of(0, row(1, 7)...), []int{0}},
		{of(5, 6, 8, 12), []int{5, 7, 9, 10, 11}},
		{of(65534, 65535), []int{65534}},
		{of(65528, 65535), row(65528, 65534)},
		{of(65536), nil},
		// Of windows that are not sound.
		{of(5, 5), nil},
		{of(5, 5, 7), []int{6}},
		{of(5, 7, 5), []int{6}},
		{of(5, 12, 6, 8), []int{5, 7, 9, 10, 11}},
		{of(5, 4), nil},
		{of(5, 13), row(5, 12)},
		{of(5, 60000), row(5, 12)},
		{of(5, 65536), nil},
		{of(65535, 65536), nil},
		{of(65536, 65540), nil},
		{of(-3, 2), []int{0, 1}},
		{of(math.MinInt, 5, math.MaxInt), nil},
		{of(math.MaxInt, 5, math.MaxInt), nil},
	} {
		if got := window.Gaps(c.w); !slices.Equal(got, c.want) {
			t.Errorf("Gaps of %d, %v: %v, want %v", c.w.Next, numbers(c.w.Ahead), got, c.want)
		}
	}
	r := rand.New(rand.NewSource(6))
	for range 20000 {
		w := anyWindow(r)
		if got := window.Gaps(w); !slices.Equal(got, gapsOf(w)) {
			t.Fatalf("Gaps of %d, %v: %v, want %v", w.Next, numbers(w.Ahead), got, gapsOf(w))
		}
	}
}

func TestRoom(t *testing.T) { // P16.7
	for many := range 30 {
		want := 8 - many
		if many > 8 {
			want = 0
		}
		for _, next := range []int{0, 5, 65535, -1, math.MinInt, math.MaxInt} {
			if got := window.Room(of(next, row(1, many)...)); got != want {
				t.Errorf("Room with %d ahead: %d, want %d", many, got, want)
			}
			// Just how many are ahead counts, whatever they are.
			if got := window.Room(api.Window{Next: next, Ahead: make([]api.Part, many)}); got != want {
				t.Errorf("Room with %d of one number ahead: %d, want %d", many, got, want)
			}
		}
	}
	if got := window.Room(window.New()); got != 8 {
		t.Errorf("Room of a new one: %d", got)
	}
	if got := window.Room(api.Window{Ahead: make([]api.Part, 1<<16)}); got != 0 {
		t.Errorf("Room of a great one: %d", got)
	}
}

// orders calls see with each order of l.
func orders(l []int, see func([]int)) {
	var from func(at int)
	from = func(at int) {
		if at == len(l) {
			see(l)
			return
		}
		for i := at; i < len(l); i++ {
			l[at], l[i] = l[i], l[at]
			from(at + 1)
			l[at], l[i] = l[i], l[at]
		}
	}
	from(0)
}

// comeAll looks whether all of those parts can be taken by w, and what it is then, and has let out, is right: nothing is ahead.
func comeAll(t *testing.T, w api.Window, order []int, last int) {
	t.Helper()
	first := w.Next
	var all []api.Part
	for _, seq := range order {
		got, out, err := window.Take(w, piece(seq))
		if err != api.OK || !window.Sound(got) {
			t.Fatalf("Take of %d, of %v: %v, %d", seq, order, got, err)
		}
		w, all = got, append(all, out...)
	}
	if !like(w, of(last+1)) || !allAlike(all, pieces(row(first, last)...)) || len(window.Gaps(w)) != 0 || window.Room(w) != 8 {
		t.Fatalf("where %v came: %v, %v", order, w, numbers(all))
	}
}

func TestGapsInAnyOrder(t *testing.T) { // P16.9
	for _, next := range []int{0, 64996, 65528} {
		for many := range 8 {
			orders(row(next, next+many), func(order []int) { comeAll(t, of(next), order, next+many) })
		}
	}
	r := rand.New(rand.NewSource(9))
	for range 4000 {
		w := soundWindow(r)
		last := w.Next - 1
		if n := len(w.Ahead); n > 0 {
			last = w.Ahead[n-1].Seq
		}
		gaps := window.Gaps(w)
		if len(gaps)+len(w.Ahead) != last-w.Next+1 {
			t.Fatalf("Gaps of %d, %v: %v", w.Next, numbers(w.Ahead), gaps)
		}
		r.Shuffle(len(gaps), func(i, j int) { gaps[i], gaps[j] = gaps[j], gaps[i] })
		comeAll(t, w, gaps, last)
	}
}

func TestWhateverComes(t *testing.T) { // P16.8
	r := rand.New(rand.NewSource(8))
	for range 60 {
		w := window.New()
		var all []api.Part
		for range 3000 {
			seq := w.Next + r.Intn(14) - 3
			if r.Intn(20) == 0 {
				seq = edges[r.Intn(len(edges))]
			}
			p := piece(seq)
			if r.Intn(30) == 0 {
				p.From = 16
			}
			got, out, err := takes(t, w, p)
			if !window.Sound(got) || err != api.OK && (!window.Same(got, w) || len(out) > 0) {
				t.Fatalf("Take of %v: %v, %v, %d", p, got, out, err)
			}
			w, all = got, append(all, out...)
		}
		if len(all) != w.Next || len(all) < 500 || !allAlike(all, pieces(row(0, w.Next-1)...)) {
			t.Fatalf("up to %d %d parts were let out", w.Next, len(all))
		}
	}
}

func TestUpToTheLastNumber(t *testing.T) { // P16.8
	w := window.New()
	many := 0
	for at := 0; at <= 65535; at += 8 {
		// The eight that there is room for, from the last one on.
		for seq := at + 7; seq >= at; seq-- {
			got, out, err := window.Take(w, piece(seq))
			if err != api.OK || !window.Sound(got) {
				t.Fatalf("Take of %d: %v, %d", seq, got, err)
			}
			for _, p := range out {
				if !alike(p, piece(many)) {
					t.Fatalf("%v is let out in the place of %d", p, many)
				}
				many++
			}
			w = got
		}
	}
	if many != 65536 || !like(w, of(65536)) || !window.Sound(w) {
		t.Fatalf("%d were let out: %v", many, w)
	}
	for _, seq := range []int{0, 1, 65535, 65536, 65537} {
		if got, out, err := window.Take(w, piece(seq)); !like(got, w) || len(out) != 0 || err != api.ErrArg {
			t.Errorf("Take of %d, behind all: %v, %v, %d", seq, got, out, err)
		}
	}
}

// held is the window of next and seqs, and a part, whose lists have room behind their ends, with all that stands there: the parts, and the items of each.
func held(next, seq int, seqs ...int) (api.Window, api.Part, func() ([]api.Part, []api.Item)) {
	whole := make([]api.Part, 0, len(seqs)+3)
	var rooms [][]api.Item
	for _, n := range append(seqs, 70, 71, seq) {
		p := piece(n)
		room := append(slices.Clone(p.Items), told(3, 9)...)
		rooms = append(rooms, room)
		p.Items = room[:len(p.Items)]
		whole = append(whole, p)
	}
	p := whole[len(seqs)+2]
	return api.Window{Next: next, Ahead: whole[:len(seqs)]}, p, func() ([]api.Part, []api.Item) {
		return deep(whole), slices.Concat(rooms...)
	}
}

// cases are windows and numbers that are taken to each end: let out at once, with others, kept, refused.
var cases = []struct {
	next, seq int
	ahead     []int
}{
	{5, 5, nil}, {5, 7, nil}, {5, 5, []int{6, 7, 9, 11}}, {5, 5, row(6, 12)}, {5, 8, []int{6, 7, 9, 11}}, {5, 12, []int{6, 7}}, {5, 6, []int{9}},
	{5, 4, []int{6, 9}}, {5, 13, []int{6, 9}}, {5, 9, []int{6, 9}}, {-1, 9, []int{6, 9}}, {5, -9, []int{6, 9}},
}

func TestArgumentsStay(t *testing.T) { // R3
	for _, c := range cases {
		w, p, now := held(c.next, c.seq, c.ahead...)
		parts, items := now()
		window.Take(w, p)
		window.Bits(w)
		window.Same(w, w)
		window.Sound(w)
		window.Gaps(w)
		window.Room(w)
		if after, items2 := now(); !allAlike(after, parts) || !slices.Equal(items2, items) {
			t.Errorf("%d, %v, %d: what was handed in was changed", c.next, c.ahead, c.seq)
		}
	}
}

// rooms is all the lists of what Take answers: a function for each that writes over it, and over the room behind its end.
func rooms(w api.Window, out []api.Part) []func() {
	mark := api.Item{Dest: 77, Kind: 78, Dist: 79, Pred: 80}
	var all []func()
	for _, l := range [][]api.Part{w.Ahead, out} {
		for i := range l {
			items := l[i].Items
			all = append(all, func() { fill(items, mark) })
		}
		all = append(all, func() { fill(l, api.Part{Seq: 99}) })
	}
	return all
}

// fill puts x over all of l, and over what it has room for behind.
func fill[T any](l []T, x T) {
	l = l[:cap(l)]
	for i := range l {
		l[i] = x
	}
}

func TestAnswersAreNewMemory(t *testing.T) { // R3
	for _, c := range cases {
		w, p, now := held(c.next, c.seq, c.ahead...)
		parts, items := now()
		first, out, _ := window.Take(w, p)
		for i := range rooms(first, out) {
			// Of each answer one list is written over: nothing else may change.
			got, gone, _ := window.Take(w, p)
			rooms(got, gone)[i]()
			if after, items2 := now(); !allAlike(after, parts) || !slices.Equal(items2, items) {
				t.Fatalf("%d, %v, %d: list %d shares memory with what was handed in", c.next, c.ahead, c.seq, i)
			}
			if changed(got.Ahead, first.Ahead)+changed(gone, out) > 1 {
				t.Fatalf("%d, %v, %d: list %d shares memory with another one of the answer", c.next, c.ahead, c.seq, i)
			}
		}
		gaps := window.Gaps(w)
		fill(gaps, 99)
		if after, _ := now(); !allAlike(after, parts) {
			t.Fatalf("%d, %v, %d: the gaps share memory", c.next, c.ahead, c.seq)
		}
	}
}

// changed is how many lists of a are other than those of b: a itself counts as one, or else each list of items.
func changed(a, b []api.Part) int {
	if !slices.Equal(numbers(a), numbers(b)) {
		return 1
	}
	many := 0
	for i := range a {
		if !slices.Equal(a[i].Items, b[i].Items) {
			many++
		}
	}
	return many
}

func TestSharedItems(t *testing.T) { // R3
	// Parts that are handed in may share one list of items; those that are answered may not.
	items := told(3, 5)
	part := func(seq int) api.Part { return api.Part{Seq: seq, Items: items} }
	for _, seq := range []int{0, 7} {
		w, out, err := window.Take(api.Window{Ahead: []api.Part{part(1), part(2), part(4), part(5)}}, part(seq))
		if err != api.OK || len(w.Ahead)+len(out) != 5 {
			t.Fatalf("Take: %v, %v, %d", w, out, err)
		}
		for i, p := range append(deep(w.Ahead), deep(out)...) {
			if !slices.Equal(p.Items, items) {
				t.Fatalf("part %d: %v", i, p)
			}
		}
		for _, l := range [][]api.Part{w.Ahead, out} {
			for i := range l {
				if !slices.Equal(l[i].Items, items) {
					t.Fatalf("the items of %d are those of another one", l[i].Seq)
				}
				fill(l[i].Items, api.Item{})
			}
		}
	}
}

func TestTakeTwice(t *testing.T) { // P16.2, R3
	// Two windows that came of one grow apart.
	w := window.New()
	for _, seq := range []int{7, 2, 5} {
		w, _, _ = window.Take(w, piece(seq))
		a, _, _ := window.Take(w, piece(1))
		b, _, _ := window.Take(w, piece(3))
		c, _, _ := window.Take(w, piece(6))
		for _, more := range []struct {
			w   api.Window
			seq int
		}{{a, 1}, {b, 3}, {c, 6}} {
			if seqs := numbers(more.w.Ahead); !slices.Contains(seqs, more.seq) || len(seqs) != len(w.Ahead)+1 || !window.Sound(more.w) {
				t.Fatalf("with %d: %v", more.seq, seqs)
			}
		}
	}
}

func TestGreatWindows(t *testing.T) { // R1
	var w api.Window
	w.Next = 3
	for i := range 1 << 17 {
		w.Ahead = append(w.Ahead, api.Part{Seq: i + 4})
	}
	got, out, err := window.Take(w, piece(3))
	if err != api.OK || len(out) != 1<<17+1 || len(got.Ahead) != 0 || got.Next != 1<<17+4 {
		t.Errorf("Take: %d are let out, %d ahead, next %d, %d", len(out), len(got.Ahead), got.Next, err)
	}
	if window.Sound(w) || window.Room(w) != 0 || !window.Same(w, w) || !slices.Equal(window.Gaps(w), []int{3}) {
		t.Error("of a great window")
	}
	if next, bits := window.Bits(w); next != 3 || bits != 254 {
		t.Errorf("Bits of a great window: %d, %d", next, bits)
	}
}

// FuzzWindow holds what the calls say of any window, and any parts that come, against the chapter's words (P16.1 to P16.9).
func FuzzWindow(f *testing.F) {
	f.Add([]byte{1, 0, 3, 2}, 0, 5, 3)
	f.Add([]byte{7, 7, 200, 6, 0, 0, 1}, 65530, math.MinInt, 16)
	f.Add([]byte{}, math.MaxInt, math.MaxInt, -1)
	f.Fuzz(func(t *testing.T, b []byte, next, seq, from int) {
		w, any := window.New(), api.Window{Next: next}
		many := 0
		for _, n := range b[:min(len(b), 200)] {
			p := piece(w.Next + int(int8(n))/8)
			got, out, _ := takes(t, w, p)
			for _, p := range out {
				if !alike(p, piece(many)) {
					t.Fatalf("%v is let out in the place of %d", p, many)
				}
				many++
			}
			if w = got; !window.Sound(w) || w.Next != many {
				t.Fatalf("%v behind %d parts", w, many)
			}
			any.Ahead = append(any.Ahead, piece(next+int(int8(n))/8))
		}
		p := piece(seq)
		p.From = from
		for _, w := range []api.Window{w, any} {
			takes(t, w, p)
			takes(t, w, piece(seq))
			if got := window.Sound(w); got != isSound(w) {
				t.Fatalf("Sound of %d, %v: %t", w.Next, numbers(w.Ahead), got)
			}
			if got := window.Gaps(w); !slices.Equal(got, gapsOf(w)) {
				t.Fatalf("Gaps of %d, %v: %v", w.Next, numbers(w.Ahead), got)
			}
			if at, bits := window.Bits(w); at != w.Next || bits != bitsOf(w) {
				t.Fatalf("Bits of %d, %v: %d, %d", w.Next, numbers(w.Ahead), at, bits)
			}
		}
		if window.Same(w, any) != like(w, any) {
			t.Fatalf("Same of %v and %v: %t", w, any, window.Same(w, any))
		}
	})
}
