package split_test

import (
	"math"
	"math/rand"
	"slices"
	"testing"

	"fingerpost/api"
	"fingerpost/item"
	"fingerpost/split"
)

// edges are numbers at those of what the chapter names, and at the ends of int.
var edges = []int{0, 1, 2, 3, 5, 6, 7, 11, 12, 13, 42, 43, 47, 48, 49, 54, 55, 255, 256, 1 << 16, 1<<31 - 1, 1 << 32, 1<<32 + 1, math.MaxInt - 6, math.MaxInt - 5, math.MaxInt - 1, math.MaxInt, -1, -2, -5, -6, -7, -48, -49, -1 << 32, math.MinInt, math.MinInt + 1}

// told is the item of that number: it is right, and unlike those of the numbers near it in all its fields.
func told(n int) api.Item {
	if n%11 == 10 {
		return item.Far(n%16, n%3)
	}
	return api.Item{Dest: n % 16, Kind: n % 3, Dist: uint32(100 + n), Pred: (n + 1) % 16}
}

// list is so many items, from that number on.
func list(many, from int) []api.Item {
	var l []api.Item
	for i := range many {
		l = append(l, told(from+i))
	}
	return l
}

// wrongs are items that are not right, each for a reason of its own.
func wrongs() []api.Item {
	return []api.Item{{}, {Dest: -1, Dist: 1}, {Dest: 16, Dist: 1}, {Dest: 1, Kind: 3, Dist: 1}, {Dest: 1, Kind: -1, Dist: 1}, {Dest: 1, Dist: 1, Pred: 1}, {Dest: 1, Dist: 1, Pred: -1}, {Dest: 1, Dist: 1, Pred: 16}, {Dest: 1, Dist: 15*api.MaxCost + 1}, {Dest: 1, Dist: api.Far}}
}

// isRight tells by chapter 7's words whether x is right.
func isRight(x api.Item) bool {
	if x.Dest < 0 || x.Dest > 15 || x.Kind < 0 || x.Kind > 2 {
		return false
	}
	if x.Dist == 0 || x.Dist == 1<<32-1 {
		return x.Pred == -1
	}
	return x.Pred >= 0 && x.Pred <= 15 && x.Pred != x.Dest && x.Dist <= 15*65536
}

// cutOf is Cut by the chapter's words, item by item.
func cutOf(l []api.Item) ([][]api.Item, api.Errno) {
	if len(l) > 48 {
		return nil, api.ErrLong
	}
	all := [][]api.Item{{}}
	for _, x := range l {
		if !isRight(x) {
			return nil, api.ErrArg
		}
		if len(all[len(all)-1]) == 6 {
			all = append(all, nil)
		}
		all[len(all)-1] = append(all[len(all)-1], x)
	}
	return all, api.OK
}

// gatherOf is Gather by the chapter's words.
func gatherOf(got []api.Item, p api.Part) ([]api.Item, []api.Item, bool, api.Errno) {
	if len(got)+len(p.Items) > 48 {
		return got, nil, false, api.ErrLong
	}
	var all []api.Item
	for _, x := range got {
		all = append(all, x)
	}
	for _, x := range p.Items {
		all = append(all, x)
	}
	if !p.More {
		return nil, all, true, api.OK
	}
	return all, nil, false, api.OK
}

// piecesOf is Pieces by counting what is left, of no more than a million items.
func piecesOf(items int) int {
	many := 1
	for items > 6 {
		many++
		items -= 6
	}
	return many
}

// kindsOf is Kinds by the chapter's words.
func kindsOf(l []api.Item) [3]int {
	var all [3]int
	for kind := range all {
		for _, x := range l {
			if x.Kind == kind {
				all[kind]++
			}
		}
	}
	return all
}

// allAlike tells whether a and b have the same pieces, in order.
func allAlike(a, b [][]api.Item) bool {
	return slices.EqualFunc(a, b, slices.Equal[[]api.Item])
}

// cuts looks whether Cut answers what cutOf answers, and answers that.
func cuts(t *testing.T, l []api.Item) ([][]api.Item, api.Errno) {
	t.Helper()
	got, err := split.Cut(l)
	want, wantErr := cutOf(l)
	if !allAlike(got, want) || err != wantErr {
		t.Fatalf("Cut of %v: %v, %d, want %v, %d", l, got, err, want, wantErr)
	}
	return got, err
}

// gathers looks whether Gather answers what gatherOf answers, and answers that.
func gathers(t *testing.T, got []api.Item, p api.Part) ([]api.Item, []api.Item, bool, api.Errno) {
	t.Helper()
	left, all, whole, err := split.Gather(got, p)
	wantLeft, wantAll, wantWhole, wantErr := gatherOf(got, p)
	if !slices.Equal(left, wantLeft) || !slices.Equal(all, wantAll) || whole != wantWhole || err != wantErr {
		t.Fatalf("Gather of %v, %v: %v, %v, %t, %d, want %v, %v, %t, %d", got, p, left, all, whole, err, wantLeft, wantAll, wantWhole, wantErr)
	}
	return left, all, whole, err
}

// parts are the parts of a message in those pieces.
func parts(pieces [][]api.Item) []api.Part {
	var l []api.Part
	for i, items := range pieces {
		l = append(l, api.Part{From: 3, Seq: i, More: i < len(pieces)-1, Items: items})
	}
	return l
}

// anyItem is an item that is often right.
func anyItem(r *rand.Rand) api.Item {
	if r.Intn(40) == 0 {
		return wrongs()[r.Intn(len(wrongs()))]
	}
	return told(r.Intn(1000))
}

func TestMost(t *testing.T) { // P18.1
	if got := split.Most(); got != 6 {
		t.Errorf("Most: %d", got)
	}
	// So many items have room in a part, and one more has none.
	for many, fits := range map[int]bool{split.Most(): true, split.Most() + 1: false} {
		if s, err := item.All(list(many, 0)); err != api.OK || len(s) <= api.MaxPart != fits {
			t.Errorf("%d items have %d bytes, %d", many, len(s), err)
		}
	}
}

func TestExample(t *testing.T) { // P18.2, the chapter's example
	l := list(7, 0)
	if got, err := split.Cut(l); !allAlike(got, [][]api.Item{l[:6], l[6:]}) || err != api.OK {
		t.Errorf("Cut of seven: %v, %d", got, err)
	}
}

func TestCut(t *testing.T) { // P18.2
	for _, l := range [][]api.Item{nil, {}} {
		if got, err := split.Cut(l); len(got) != 1 || len(got[0]) != 0 || err != api.OK {
			t.Errorf("Cut of none: %v, %d", got, err)
		}
	}
	sizes := map[int][]int{1: {1}, 5: {5}, 6: {6}, 7: {6, 1}, 11: {6, 5}, 12: {6, 6}, 13: {6, 6, 1}, 42: {6, 6, 6, 6, 6, 6, 6}, 43: {6, 6, 6, 6, 6, 6, 6, 1}, 47: {6, 6, 6, 6, 6, 6, 6, 5}, 48: {6, 6, 6, 6, 6, 6, 6, 6}}
	for many, want := range sizes {
		got, err := split.Cut(list(many, 9))
		if len(got) != len(want) || err != api.OK {
			t.Fatalf("Cut of %d: %d pieces, %d", many, len(got), err)
		}
		for i, n := range want {
			if !slices.Equal(got[i], list(n, 9+6*i)) {
				t.Errorf("Cut of %d: the piece %d is %v", many, i, got[i])
			}
		}
	}
	for many := range 49 {
		for from := range 20 {
			if _, err := cuts(t, list(many, from)); err != api.OK {
				t.Fatalf("Cut of %d: %d", many, err)
			}
		}
	}
}

func TestCutOfTheSame(t *testing.T) { // P18.2
	// Nothing is left out of a message that has an item more than once, and nothing is put in another order.
	for many := range 49 {
		l := slices.Repeat([]api.Item{told(7)}, many)
		cuts(t, l)
		l = list(many, 3)
		slices.Reverse(l)
		cuts(t, l)
	}
}

func TestCutErrors(t *testing.T) { // P18.2
	for _, many := range []int{49, 50, 54, 96, 1000} {
		if got, err := split.Cut(list(many, 0)); len(got) != 0 || err != api.ErrLong {
			t.Errorf("Cut of %d: %v, %d", many, got, err)
		}
		// That there are too many is looked at first.
		if got, err := split.Cut(make([]api.Item, many)); len(got) != 0 || err != api.ErrLong {
			t.Errorf("Cut of %d wrong ones: %v, %d", many, got, err)
		}
	}
	for many := 1; many <= 48; many++ {
		for at := range many {
			for _, x := range wrongs() {
				l := list(many, at)
				l[at] = x
				if got, err := split.Cut(l); len(got) != 0 || err != api.ErrArg {
					t.Fatalf("Cut of %d with %v at %d: %v, %d", many, x, at, got, err)
				}
			}
		}
	}
}

func TestCutOfAny(t *testing.T) { // P18.2
	r := rand.New(rand.NewSource(18))
	for range 20000 {
		var l []api.Item
		for range r.Intn(52) {
			l = append(l, anyItem(r))
		}
		cuts(t, l)
	}
}

func TestGather(t *testing.T) { // P18.3
	l := list(20, 0)
	p := api.Part{From: 1, Seq: 5, More: true, Items: l[6:12]}
	if got, all, whole, err := split.Gather(l[:6], p); !slices.Equal(got, l[:12]) || len(all) != 0 || whole || err != api.OK {
		t.Errorf("Gather with more: %v, %v, %t, %d", got, all, whole, err)
	}
	p.More = false
	if got, all, whole, err := split.Gather(l[:6], p); len(got) != 0 || !slices.Equal(all, l[:12]) || !whole || err != api.OK {
		t.Errorf("Gather of the last one: %v, %v, %t, %d", got, all, whole, err)
	}
	// Parts without items: the first one, and the last one.
	if got, all, whole, err := split.Gather(nil, api.Part{}); len(got) != 0 || len(all) != 0 || !whole || err != api.OK {
		t.Errorf("Gather of a message of none: %v, %v, %t, %d", got, all, whole, err)
	}
	if got, all, whole, err := split.Gather(nil, api.Part{More: true}); len(got) != 0 || len(all) != 0 || whole || err != api.OK {
		t.Errorf("Gather of none with more: %v, %v, %t, %d", got, all, whole, err)
	}
	if got, all, whole, err := split.Gather(l, api.Part{}); len(got) != 0 || !slices.Equal(all, l) || !whole || err != api.OK {
		t.Errorf("Gather of none behind: %v, %v, %t, %d", got, all, whole, err)
	}
	if got, all, whole, err := split.Gather(l, api.Part{More: true}); !slices.Equal(got, l) || len(all) != 0 || whole || err != api.OK {
		t.Errorf("Gather of none behind with more: %v, %v, %t, %d", got, all, whole, err)
	}
}

func TestGatherOfEachMany(t *testing.T) { // P18.3
	for many := range 60 {
		for more := range 60 {
			for _, follow := range []bool{true, false} {
				_, _, whole, err := gathers(t, list(many, 5), api.Part{More: follow, Items: list(more, 8)})
				if fits := many+more <= 48; fits != (err == api.OK) || whole != (fits && !follow) {
					t.Fatalf("Gather of %d and %d, %t: %t, %d", many, more, follow, whole, err)
				}
			}
		}
	}
}

func TestGatherErrors(t *testing.T) { // P18.3
	for _, c := range [][2]int{{48, 1}, {43, 6}, {0, 49}, {49, 0}, {1, 48}, {48, 6}, {100, 100}} {
		for _, more := range []bool{true, false} {
			got, all, whole, err := split.Gather(list(c[0], 3), api.Part{More: more, Items: list(c[1], 1)})
			if !slices.Equal(got, list(c[0], 3)) || len(all) != 0 || whole || err != api.ErrLong {
				t.Errorf("Gather of %d and %d: %v, %v, %t, %d", c[0], c[1], got, all, whole, err)
			}
		}
	}
	for _, c := range [][2]int{{48, 0}, {42, 6}, {0, 48}, {47, 1}} {
		if _, all, whole, err := split.Gather(list(c[0], 3), api.Part{Items: list(c[1], 1)}); len(all) != 48 || !whole || err != api.OK {
			t.Errorf("Gather of %d and %d: %d items, %t, %d", c[0], c[1], len(all), whole, err)
		}
	}
}

func TestGatherOfWrongOnes(t *testing.T) { // P18.3
	// Just how many there are is looked at: neither what they are, nor whose part it is.
	for _, p := range []api.Part{{}, {From: -1, Seq: -1}, {From: 16, Seq: 1 << 20}} {
		p.Items = wrongs()
		for _, p.More = range []bool{true, false} {
			if _, _, _, err := gathers(t, wrongs()[3:], p); err != api.OK {
				t.Errorf("Gather of %v: %d", p, err)
			}
		}
	}
}

func TestPieces(t *testing.T) { // P18.4
	for items, want := range map[int]int{0: 1, 1: 1, 5: 1, 6: 1, 7: 2, 11: 2, 12: 2, 13: 3, 42: 7, 43: 8, 47: 8, 48: 8} {
		if got := split.Pieces(items); got != want {
			t.Errorf("Pieces of %d: %d, want %d", items, got, want)
		}
	}
	for items := -1000; items < 1000; items++ {
		if got, want := split.Pieces(items), piecesOf(items); got != want {
			t.Errorf("Pieces of %d: %d, want %d", items, got, want)
		}
	}
	for _, items := range edges {
		got := split.Pieces(items)
		if got < 1 || items <= 6 && got != 1 || items > 6 && (got-1 != (items-1)/6) {
			t.Errorf("Pieces of %d: %d", items, got)
		}
	}
}

func TestKinds(t *testing.T) { // P18.5
	for _, c := range []struct {
		kinds []int
		want  [3]int
	}{
		{nil, [3]int{}},
		{[]int{0}, [3]int{1, 0, 0}},
		{[]int{1}, [3]int{0, 1, 0}},
		{[]int{2}, [3]int{0, 0, 1}},
		{[]int{2, 0, 2, 1, 2, 0}, [3]int{2, 1, 3}},
		{[]int{3, -1, 2, 16, 9}, [3]int{0, 0, 1}},
		{edges, [3]int{1, 1, 1}},
	} {
		var l []api.Item
		for i, kind := range c.kinds {
			l = append(l, api.Item{Dest: i, Kind: kind, Dist: 7})
		}
		if got := split.Kinds(l); got != c.want {
			t.Errorf("Kinds of %v: %v, want %v", c.kinds, got, c.want)
		}
	}
	// Just their kinds count: also items that are not right, or there more than once, do.
	if got, want := split.Kinds(make([]api.Item, 100)), [3]int{100, 0, 0}; got != want {
		t.Errorf("Kinds of a hundred: %v", got)
	}
	if got := split.Kinds([]api.Item{item.Far(1, api.ItemTell), item.Far(1, api.ItemAsk), item.Far(2, api.ItemAsk), item.Far(1, api.ItemReply)}); got != [3]int{1, 2, 1} {
		t.Errorf("Kinds of one of each: %v", got)
	}
	for many := range 100 {
		if got := split.Kinds(list(many, 4)); got != kindsOf(list(many, 4)) {
			t.Errorf("Kinds of %d: %v", many, got)
		}
	}
}

func TestCutKeepsKinds(t *testing.T) { // P18.7
	r := rand.New(rand.NewSource(7))
	for many := range 49 {
		for range 50 {
			l := list(many, r.Intn(1000))
			for i := range l {
				l[i].Kind = r.Intn(3)
			}
			got, err := split.Cut(l)
			if len(got) != split.Pieces(many) || err != api.OK {
				t.Fatalf("Cut of %d: %d pieces, want %d", many, len(got), split.Pieces(many))
			}
			var kinds [3]int
			for _, piece := range got {
				for kind, n := range split.Kinds(piece) {
					kinds[kind] += n
				}
			}
			if want := split.Kinds(l); kinds != want || kinds[0]+kinds[1]+kinds[2] != many {
				t.Fatalf("kinds of the pieces of %v: %v, want %v", l, kinds, want)
			}
		}
	}
}

func TestCutIsGathered(t *testing.T) { // P18.6
	for many := range 49 {
		l := list(many, 5*many)
		pieces, err := split.Cut(l)
		if err != api.OK {
			t.Fatalf("Cut of %d: %d", many, err)
		}
		gathered(t, l, pieces)
	}
}

// gathered looks whether of these pieces l is gathered: with the last one, and with none ahead of it.
func gathered(t *testing.T, l []api.Item, pieces [][]api.Item) {
	t.Helper()
	var got, all []api.Item
	var whole bool
	var err api.Errno
	for i, p := range parts(pieces) {
		got, all, whole, err = split.Gather(got, p)
		if err != api.OK || whole != (i == len(pieces)-1) {
			t.Fatalf("Gather of the piece %d of %v: %t, %d", i, l, whole, err)
		}
	}
	if len(got) != 0 || !slices.Equal(all, l) {
		t.Fatalf("gathered of %v: %v, %v", l, got, all)
	}
}

func TestMessagesOneBehindTheOther(t *testing.T) { // P18.6
	r := rand.New(rand.NewSource(6))
	var got, all []api.Item
	var whole bool
	for range 1000 {
		l := list(r.Intn(49), r.Intn(1000))
		pieces, _ := cuts(t, l)
		for _, p := range parts(pieces) {
			got, all, whole, _ = gathers(t, got, p)
		}
		if !whole || !slices.Equal(all, l) {
			t.Fatalf("gathered of %v: %v, %t", l, all, whole)
		}
	}
}

// held is l with room behind its end, and what tells how it and that room stand now.
func held(l []api.Item) ([]api.Item, func() []api.Item) {
	room := append(slices.Clone(l), list(60, 77)...)
	return room[:len(l)], func() []api.Item { return slices.Clone(room) }
}

// fill puts x into all of l, and into the room behind its end.
func fill[T any](l []T, x T) {
	l = l[:cap(l)]
	for i := range l {
		l[i] = x
	}
}

func TestArgumentsStay(t *testing.T) { // R3
	for many := range 55 {
		for _, first := range []api.Item{told(1), {}} {
			l, now := held(append([]api.Item{first}, list(many, 2)...))
			items, itemsNow := held(list(many%7, 40))
			before, itemsBefore := now(), itemsNow()
			split.Cut(l)
			split.Kinds(l)
			for _, more := range []bool{true, false} {
				split.Gather(l, api.Part{More: more, Items: items})
				split.Gather(items, api.Part{More: more, Items: l})
				split.Gather(nil, api.Part{More: more, Items: l})
				split.Gather(l, api.Part{More: more})
			}
			if !slices.Equal(now(), before) || !slices.Equal(itemsNow(), itemsBefore) {
				t.Fatalf("with %d items: what was handed in was changed", len(l))
			}
		}
	}
}

func TestCutAnswersNewMemory(t *testing.T) { // R3
	for many := range 49 {
		l, now := held(list(many, 2))
		before := now()
		got, _ := split.Cut(l)
		want, _ := cutOf(l)
		for i := range got {
			fill(got[i], api.Item{Dest: 99})
			for j := i + 1; j < len(got); j++ {
				if !slices.Equal(got[j], want[j]) {
					t.Fatalf("Cut of %d: the pieces %d and %d share memory", many, i, j)
				}
			}
		}
		for i := len(got) - 1; i >= 0; i-- {
			fill(got[i], api.Item{Dest: 98 - i})
			for j, piece := range got[:i] {
				if slices.Contains(piece, api.Item{Dest: 98 - i}) {
					t.Fatalf("Cut of %d: the pieces %d and %d share memory", many, j, i)
				}
			}
		}
		if !slices.Equal(now(), before) {
			t.Fatalf("Cut of %d shares memory with what was handed in", many)
		}
	}
}

func TestGatherAnswersNewMemory(t *testing.T) { // R3
	for _, c := range [][2]int{{0, 0}, {5, 0}, {0, 5}, {6, 6}, {42, 6}, {48, 0}, {48, 1}, {49, 0}, {0, 49}, {50, 9}} {
		for _, more := range []bool{true, false} {
			l, now := held(list(c[0], 2))
			items, itemsNow := held(list(c[1], 30))
			before, itemsBefore := now(), itemsNow()
			got, all, _, _ := split.Gather(l, api.Part{More: more, Items: items})
			fill(got, api.Item{Dest: 99})
			fill(all, api.Item{Dest: 99})
			if !slices.Equal(now(), before) || !slices.Equal(itemsNow(), itemsBefore) {
				t.Errorf("Gather of %d and %d shares memory with what was handed in", c[0], c[1])
			}
		}
	}
	// Two that are gathered of one list grow apart.
	got, _, _, _ := split.Gather(list(3, 0), api.Part{More: true, Items: list(2, 9)})
	_, a, _, _ := split.Gather(got, api.Part{Items: list(1, 20)})
	_, b, _, _ := split.Gather(got, api.Part{Items: list(1, 21)})
	if a[5] != told(20) || b[5] != told(21) {
		t.Errorf("two that were gathered: %v, %v", a, b)
	}
}

func TestGreatLists(t *testing.T) { // R1
	l := list(1<<18, 0)
	if got, err := split.Cut(l); len(got) != 0 || err != api.ErrLong {
		t.Errorf("Cut of a great list: %d pieces, %d", len(got), err)
	}
	if got, all, whole, err := split.Gather(l, api.Part{Items: l}); !slices.Equal(got, l) || len(all) != 0 || whole || err != api.ErrLong {
		t.Errorf("Gather of great lists: %d, %d items, %t, %d", len(got), len(all), whole, err)
	}
	if got := split.Kinds(l); got != kindsOf(l) {
		t.Errorf("Kinds of a great list: %v", got)
	}
}

// FuzzSplit holds what the calls say of any items and numbers against the chapter's words (P18.1 to P18.7).
func FuzzSplit(f *testing.F) {
	f.Add([]byte{}, 0, 0, uint32(0), -1, false)
	f.Add([]byte("seven items here"), 7, 1, uint32(5), 2, true)
	f.Add(make([]byte, 49), 48, 3, uint32(api.Far), 255, false)
	f.Fuzz(func(t *testing.T, b []byte, at, kind int, dist uint32, pred int, more bool) {
		var l []api.Item
		for _, x := range b[:min(len(b), 100)] {
			l = append(l, told(int(x)))
		}
		pieces, err := cuts(t, l)
		if err == api.OK {
			gathered(t, l, pieces)
			if len(pieces) != split.Pieces(len(l)) {
				t.Fatalf("Pieces of %d: %d", len(l), split.Pieces(len(l)))
			}
		}
		if len(l) > 0 {
			l[uint(at)%uint(len(l))] = api.Item{Dest: at, Kind: kind, Dist: dist, Pred: pred}
			cuts(t, l)
		}
		if split.Kinds(l) != kindsOf(l) || split.Pieces(at) < 1 {
			t.Fatalf("Kinds of %v: %v; Pieces of %d: %d", l, split.Kinds(l), at, split.Pieces(at))
		}
		half := len(l) / 2
		gathers(t, l[:half], api.Part{From: at, Seq: kind, More: more, Items: l[half:]})
	})
}
