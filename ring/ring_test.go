package ring_test

import (
	"math"
	"math/rand"
	"slices"
	"strconv"
	"strings"
	"testing"

	"fingerpost/api"
	"fingerpost/ring"
)

// rooms are those that New gives, and others, with the ends of int among them.
var rooms = []int{0, 1, 2, 3, 4, 5, 63, 64, 65, 66, 1 << 20, 1<<32 + 1, -1, -2, -64, -1 << 32, math.MinInt, math.MinInt + 1, math.MinInt + 5, math.MaxInt - 1, math.MaxInt}

// numbers are places, and how many are moved, with the ends of int among them.
var numbers = []int{0, 1, 2, 3, 4, 5, 6, 63, 64, 65, 1 << 20, 1 << 32, 1<<32 + 1, -1, -2, -5, -1 << 32, math.MinInt, math.MinInt + 1, math.MinInt + 5, math.MaxInt - 1, math.MaxInt}

// lists are the texts of queues: none, one, others, some twice, and as many as MaxRing, and more.
var lists = [][]string{
	nil,
	{},
	{"a"},
	{""},
	{"a", "b"},
	{"b", "a"},
	{"a", "a"},
	{"", ""},
	{"x", "y", "x"},
	{"\x00", "", "\x00\x00", "\xff", "\x00", ""},
	{"a", "ab", "a", "b", "ab", "a"},
	some(63),
	some(64),
	some(65),
	slices.Concat(some(40), some(50)),
}

// some are n texts, no two alike.
func some(n int) []string {
	var l []string
	for i := range n {
		l = append(l, "s"+strconv.Itoa(i))
	}
	return l
}

// of is a queue with that room and these texts, in memory of its own.
func of(room int, l ...string) api.Ring {
	return api.Ring{Room: room, L: slices.Clone(l)}
}

// all are queues of each room and list.
func all() []api.Ring {
	var qs []api.Ring
	for _, room := range rooms {
		for _, l := range lists {
			qs = append(qs, of(room, l...))
		}
	}
	return qs
}

// like tells whether q has that room and these texts.
func like(q api.Ring, room int, l []string) bool {
	return q.Room == room && slices.Equal(q.L, l)
}

func TestNew(t *testing.T) { // P12.1
	for _, room := range slices.Concat(rooms, numbers) {
		newIsRight(t, room)
	}
	for room := -300; room < 300; room++ {
		newIsRight(t, room)
	}
}

// newIsRight looks whether New tells by the chapter's words of that room.
func newIsRight(t *testing.T, room int) {
	t.Helper()
	want, wrong := room, api.OK
	if room < 1 || room > 64 {
		want, wrong = 0, api.ErrArg
	}
	if q, err := ring.New(room); !like(q, want, nil) || err != wrong {
		t.Errorf("New(%d): %v, %d, want room %d, %d", room, q, err, want, wrong)
	}
}

func TestPut(t *testing.T) { // P12.2
	for _, c := range []struct {
		q    api.Ring
		s    string
		want []string
		err  api.Errno
	}{
		{of(1), "x", []string{"x"}, api.OK},
		{of(1), "", []string{""}, api.OK},
		{of(2, "a"), "x", []string{"a", "x"}, api.OK},
		{of(3, "a", "b"), "a", []string{"a", "b", "a"}, api.OK},
		{of(3, "", ""), "", []string{"", "", ""}, api.OK},
		{of(64, some(63)...), "x", append(some(63), "x"), api.OK},
		{of(2), strings.Repeat("x", 1<<17), []string{strings.Repeat("x", 1<<17)}, api.OK},
		// A room that New would not give counts too.
		{of(66, some(65)...), "x", append(some(65), "x"), api.OK},
		{of(math.MaxInt, "a"), "x", []string{"a", "x"}, api.OK},
		// As many as Room are in it.
		{of(1, "a"), "x", []string{"a"}, api.ErrFull},
		{of(2, "a", "b"), "a", []string{"a", "b"}, api.ErrFull},
		{of(64, some(64)...), "x", some(64), api.ErrFull},
		{of(0), "x", nil, api.ErrFull},
		{api.Ring{}, "", nil, api.ErrFull},
		// More than Room are in it.
		{of(1, "a", "b"), "x", []string{"a", "b"}, api.ErrFull},
		{of(0, "a"), "x", []string{"a"}, api.ErrFull},
		{of(64, some(70)...), "x", some(70), api.ErrFull},
		{of(-1), "x", nil, api.ErrFull},
		{of(-1, "a", "b"), "x", []string{"a", "b"}, api.ErrFull},
		{of(math.MinInt), "x", nil, api.ErrFull},
		{of(math.MinInt, "a", "b"), "x", []string{"a", "b"}, api.ErrFull},
	} {
		if got, err := ring.Put(c.q, c.s); !like(got, c.q.Room, c.want) || err != c.err {
			t.Errorf("Put(%v, %q): %v, %d, want %v, %d", c.q, c.s, got, err, c.want, c.err)
		}
	}
}

func TestPutOfAny(t *testing.T) { // P12.2
	for _, q := range all() {
		for _, s := range []string{"", "a", "s1", "\x00"} {
			want, wrong := append(slices.Clone(q.L), s), api.OK
			if len(q.L) >= q.Room {
				want, wrong = q.L, api.ErrFull
			}
			if got, err := ring.Put(q, s); !like(got, q.Room, want) || err != wrong {
				t.Fatalf("Put(%v, %q): %v, %d, want %v, %d", q, s, got, err, want, wrong)
			}
		}
	}
}

func TestTake(t *testing.T) { // P12.3
	for _, c := range []struct {
		q    api.Ring
		want []string
		s    string
		err  api.Errno
	}{
		{of(1, "a"), nil, "a", api.OK},
		{of(2, ""), nil, "", api.OK},
		{of(2, "a", "b"), []string{"b"}, "a", api.OK},
		{of(5, "x", "y", "x"), []string{"y", "x"}, "x", api.OK},
		{of(2, "", "b"), []string{"b"}, "", api.OK},
		// Room does not count.
		{of(0, "a", "b"), []string{"b"}, "a", api.OK},
		{of(math.MinInt, "a"), nil, "a", api.OK},
		{of(64, some(70)...), some(70)[1:], "s0", api.OK},
		{of(1), nil, "", api.ErrNone},
		{of(64), nil, "", api.ErrNone},
		{api.Ring{}, nil, "", api.ErrNone},
		{api.Ring{Room: 3, L: []string{}}, nil, "", api.ErrNone},
		{of(math.MinInt), nil, "", api.ErrNone},
	} {
		if got, s, err := ring.Take(c.q); !like(got, c.q.Room, c.want) || s != c.s || err != c.err {
			t.Errorf("Take(%v): %v, %q, %d, want %v, %q, %d", c.q, got, s, err, c.want, c.s, c.err)
		}
	}
}

func TestTakeOfAny(t *testing.T) { // P12.3
	for _, q := range all() {
		var want []string
		first, wrong := "", api.ErrNone
		if len(q.L) > 0 {
			first, want, wrong = q.L[0], q.L[1:], api.OK
		}
		if got, s, err := ring.Take(q); !like(got, q.Room, want) || s != first || err != wrong {
			t.Fatalf("Take(%v): %v, %q, %d", q, got, s, err)
		}
	}
}

func TestDrop(t *testing.T) { // P12.4
	for _, c := range []struct {
		q    api.Ring
		i    int
		want []string
		err  api.Errno
	}{
		{of(1, "a"), 0, nil, api.OK},
		{of(3, "a", "b", "c"), 0, []string{"b", "c"}, api.OK},
		{of(3, "a", "b", "c"), 1, []string{"a", "c"}, api.OK},
		{of(3, "a", "b", "c"), 2, []string{"a", "b"}, api.OK},
		// That place goes, and no other one with the same text.
		{of(9, "x", "y", "x", "x"), 2, []string{"x", "y", "x"}, api.OK},
		{of(9, "x", "x", "y"), 1, []string{"x", "y"}, api.OK},
		{of(0, "a", "b"), 1, []string{"a"}, api.OK},
		{of(math.MinInt, "a", "b"), 0, []string{"b"}, api.OK},
		{of(3, "a", "b", "c"), 3, []string{"a", "b", "c"}, api.ErrNone},
		{of(3, "a", "b", "c"), -1, []string{"a", "b", "c"}, api.ErrNone},
		{of(64, "a", "b", "c"), 63, []string{"a", "b", "c"}, api.ErrNone},
		{of(3, "a"), math.MaxInt, []string{"a"}, api.ErrNone},
		{of(3, "a"), math.MinInt, []string{"a"}, api.ErrNone},
		{of(3, "a"), 1 << 32, []string{"a"}, api.ErrNone},
		{of(3), 0, nil, api.ErrNone},
		{api.Ring{}, -1, nil, api.ErrNone},
	} {
		if got, err := ring.Drop(c.q, c.i); !like(got, c.q.Room, c.want) || err != c.err {
			t.Errorf("Drop(%v, %d): %v, %d, want %v, %d", c.q, c.i, got, err, c.want, c.err)
		}
	}
}

func TestDropOfAny(t *testing.T) { // P12.4
	for _, q := range all() {
		for _, i := range numbers {
			want, wrong := q.L, api.ErrNone
			if i >= 0 && i < len(q.L) {
				want, wrong = slices.Delete(slices.Clone(q.L), i, i+1), api.OK
			}
			if got, err := ring.Drop(q, i); !like(got, q.Room, want) || err != wrong {
				t.Fatalf("Drop(%v, %d): %v, %d, want %v, %d", q, i, got, err, want, wrong)
			}
		}
	}
}

func TestLong(t *testing.T) { // P12.5
	for _, c := range []struct {
		q    api.Ring
		want int
	}{
		{api.Ring{}, 0},
		{of(5), 0},
		{api.Ring{Room: 5, L: []string{}}, 0},
		{api.Ring{Room: 5, L: make([]string, 0, 9)}, 0},
		{of(5, ""), 1},
		{of(5, "abc"), 1},
		{of(5, "a", "a", "a"), 3},
		{of(64, some(64)...), 64},
		{of(2, some(70)...), 70},
		{of(math.MinInt, "a", "b"), 2},
	} {
		if got := ring.Long(c.q); got != c.want {
			t.Errorf("Long(%v): %d, want %d", c.q, got, c.want)
		}
	}
}

func TestSame(t *testing.T) { // P12.6
	for _, c := range []struct {
		a, b api.Ring
		want bool
	}{
		{api.Ring{}, api.Ring{}, true},
		{of(3), api.Ring{Room: 3, L: []string{}}, true},
		{api.Ring{Room: 3, L: []string{}}, of(3), true},
		{of(3), api.Ring{Room: 3, L: make([]string, 0, 9)}, true},
		{of(3, "a"), of(3, "a"), true},
		{of(3, "a", "b"), of(3, "a", "b"), true},
		{of(-3, "a"), of(-3, "a"), true},
		{of(math.MinInt, ""), of(math.MinInt, ""), true},
		{of(3), of(4), false},
		{of(3, "a"), of(4, "a"), false},
		{of(1), of(1<<32 + 1), false},
		{of(3), of(-3), false},
		{of(3), of(3, ""), false},
		{of(3, ""), of(3), false},
		{of(3, "a"), of(3, "b"), false},
		{of(3, "a"), of(3, "A"), false},
		{of(3, "a"), of(3, "a", "b"), false},
		{of(3, "a", "b"), of(3, "a"), false},
		{of(3, "a", "b"), of(3, "b", "a"), false},
		{of(3, "a", "b"), of(3, "a", "c"), false},
		{of(3, "a", "b"), of(3, "c", "b"), false},
		{of(3, "ab", ""), of(3, "a", "b"), false},
		{of(3, "a", "a", "b"), of(3, "a", "b", "b"), false},
	} {
		if got := ring.Same(c.a, c.b); got != c.want {
			t.Errorf("Same(%v, %v): %t, want %t", c.a, c.b, got, c.want)
		}
	}
}

func TestSameOfAny(t *testing.T) { // P12.6
	for _, a := range all() {
		for _, b := range all() {
			if got, want := ring.Same(a, b), like(a, b.Room, b.L); got != want {
				t.Fatalf("Same(%v, %v): %t, want %t", a, b, got, want)
			}
		}
	}
}

func TestPeek(t *testing.T) { // P12.7
	for _, c := range []struct {
		q    api.Ring
		i    int
		want string
		is   bool
	}{
		{of(3, "a", "b", "c"), 0, "a", true},
		{of(3, "a", "b", "c"), 1, "b", true},
		{of(3, "a", "b", "c"), 2, "c", true},
		{of(3, "a", "", "c"), 1, "", true},
		{of(0, "a", "b"), 1, "b", true},
		{of(math.MinInt, "a"), 0, "a", true},
		{of(3, "a", "b", "c"), 3, "", false},
		{of(64, "a", "b", "c"), 63, "", false},
		{of(3, "a", "b", "c"), -1, "", false},
		{of(3, "a", "b", "c"), math.MinInt, "", false},
		{of(3, "a", "b", "c"), math.MaxInt, "", false},
		{of(3, "a", "b", "c"), 1<<32 + 1, "", false},
		{of(3), 0, "", false},
		{api.Ring{}, 0, "", false},
		{api.Ring{}, -1, "", false},
	} {
		if got, is := ring.Peek(c.q, c.i); got != c.want || is != c.is {
			t.Errorf("Peek(%v, %d): %q, %t, want %q, %t", c.q, c.i, got, is, c.want, c.is)
		}
	}
	// What lies in the room behind the end is in no place.
	held := some(5)
	if got, is := ring.Peek(api.Ring{Room: 9, L: held[:3]}, 3); got != "" || is {
		t.Errorf("Peek behind the end: %q, %t", got, is)
	}
}

func TestPeekOfAny(t *testing.T) { // P12.7
	for _, q := range all() {
		for i, want := range q.L {
			if got, is := ring.Peek(q, i); got != want || !is {
				t.Fatalf("Peek(%v, %d): %q, %t, want %q", q, i, got, is, want)
			}
		}
		for _, i := range numbers {
			if got, is := ring.Peek(q, i); is != (i >= 0 && i < len(q.L)) || !is && got != "" {
				t.Fatalf("Peek(%v, %d): %q, %t", q, i, got, is)
			}
		}
	}
}

func TestFind(t *testing.T) { // P12.8
	for _, c := range []struct {
		q    api.Ring
		s    string
		want int
	}{
		{of(3, "a", "b", "c"), "a", 0},
		{of(3, "a", "b", "c"), "b", 1},
		{of(3, "a", "b", "c"), "c", 2},
		{of(9, "x", "y", "x", "y"), "x", 0},
		{of(9, "x", "y", "x", "y"), "y", 1},
		{of(3, "a", ""), "", 1},
		{of(0, "a", "b"), "b", 1},
		{of(64, some(70)...), "s69", 69},
		{of(3, "a", "b", "c"), "d", -1},
		{of(3, "a", "b", "c"), "", -1},
		{of(3, "ab"), "a", -1},
		{of(3, "a"), "ab", -1},
		{of(3, "a"), "A", -1},
		{of(3), "", -1},
		{api.Ring{}, "a", -1},
	} {
		if got := ring.Find(c.q, c.s); got != c.want {
			t.Errorf("Find(%v, %q): %d, want %d", c.q, c.s, got, c.want)
		}
	}
	held := some(5)
	if got := ring.Find(api.Ring{Room: 9, L: held[:3]}, "s3"); got != -1 {
		t.Errorf("Find behind the end: %d", got)
	}
}

func TestFindOfAny(t *testing.T) { // P12.8
	for _, q := range all() {
		for _, s := range slices.Concat(q.L, []string{"", "a", "b", "s7", "none"}) {
			if got, want := ring.Find(q, s), slices.Index(q.L, s); got != want {
				t.Fatalf("Find(%v, %q): %d, want %d", q, s, got, want)
			}
		}
	}
}

func TestOnly(t *testing.T) { // P12.9
	for _, c := range []struct {
		q    api.Ring
		want []string
		many int
	}{
		{api.Ring{}, nil, 0},
		{of(5), nil, 0},
		{of(5, "a"), []string{"a"}, 0},
		{of(5, "a", "b", "c"), []string{"a", "b", "c"}, 0},
		{of(5, "x", "y", "x"), []string{"x", "y"}, 1},
		{of(5, "a", "a"), []string{"a"}, 1},
		{of(5, "a", "a", "a", "a"), []string{"a"}, 3},
		{of(5, "", "", "a", ""), []string{"", "a"}, 2},
		{of(5, "y", "x", "x", "y", "z", "x"), []string{"y", "x", "z"}, 3},
		{of(5, "a", "A", "ab", "b"), []string{"a", "A", "ab", "b"}, 0},
		{of(0, "b", "a", "b"), []string{"b", "a"}, 1},
		{of(math.MinInt, "a", "a"), []string{"a"}, 1},
		{of(64, some(70)...), some(70), 0},
		{of(64, slices.Concat(some(40), some(50))...), some(50), 40},
	} {
		if got, many := ring.Only(c.q); !like(got, c.q.Room, c.want) || many != c.many {
			t.Errorf("Only(%v): %v, %d, want %v, %d", c.q, got, many, c.want, c.many)
		}
	}
}

// only is l without those that are there ahead, by the chapter's words.
func only(l []string) []string {
	var kept []string
	for i, s := range l {
		if !slices.Contains(l[:i], s) {
			kept = append(kept, s)
		}
	}
	return kept
}

func TestOnlyOfAny(t *testing.T) { // P12.9
	for _, q := range all() {
		want := only(q.L)
		got, many := ring.Only(q)
		if !like(got, q.Room, want) || many != len(q.L)-len(want) {
			t.Fatalf("Only(%v): %v, %d, want %v", q, got, many, want)
		}
		if again, many := ring.Only(got); !ring.Same(again, got) || many != 0 {
			t.Fatalf("Only(%v): %v, %d", got, again, many)
		}
	}
}

func TestOnlyOfMuch(t *testing.T) { // P12.9, R1
	l := slices.Concat(some(100000), some(100000))
	if got, many := ring.Only(of(3, l...)); !like(got, 3, l[:100000]) || many != 100000 {
		t.Errorf("Only of much: %d, %d", len(got.L), many)
	}
}

func TestMove(t *testing.T) { // P12.10
	for _, c := range []struct {
		a, b  api.Ring
		most  int
		wantA []string
		wantB []string
		many  int
	}{
		{of(5, "x", "y", "x"), of(2), 9, []string{"x"}, []string{"x", "y"}, 2},
		{of(5, "a", "b", "c"), of(5, "d"), 9, nil, []string{"d", "a", "b", "c"}, 3},
		{of(5, "a", "b", "c"), of(5, "d"), 3, nil, []string{"d", "a", "b", "c"}, 3},
		{of(5, "a", "b", "c"), of(5, "d"), 2, []string{"c"}, []string{"d", "a", "b"}, 2},
		{of(5, "a", "b", "c"), of(5, "d"), 1, []string{"b", "c"}, []string{"d", "a"}, 1},
		{of(5, "a", "b", "c"), of(5, "d"), math.MaxInt, nil, []string{"d", "a", "b", "c"}, 3},
		{of(64, some(64)...), of(64), 64, nil, some(64), 64},
		{of(64, some(64)...), of(64), 63, []string{"s63"}, some(63), 63},
		{of(64, some(64)...), of(64, "x"), 64, []string{"s63"}, append([]string{"x"}, some(63)...), 63},
		// No more than it has room for.
		{of(5, "a", "b", "c"), of(2, "d"), 9, []string{"b", "c"}, []string{"d", "a"}, 1},
		{of(5, "a", "b", "c"), of(1, "d"), 9, []string{"a", "b", "c"}, []string{"d"}, 0},
		{of(5, "a"), of(1, "d", "e"), 9, []string{"a"}, []string{"d", "e"}, 0},
		{of(5, "a"), of(0), 9, []string{"a"}, nil, 0},
		{of(5, "a"), of(-1), 9, []string{"a"}, nil, 0},
		{of(5, "a", "b"), of(math.MinInt), 9, []string{"a", "b"}, nil, 0},
		{of(5, "a", "b"), of(math.MinInt, "c"), 9, []string{"a", "b"}, []string{"c"}, 0},
		{of(5, "a", "b"), of(math.MaxInt, "c"), 9, nil, []string{"c", "a", "b"}, 2},
		// At most none.
		{of(5, "a", "b"), of(5, "c"), 0, []string{"a", "b"}, []string{"c"}, 0},
		{of(5, "a", "b"), of(5, "c"), -1, []string{"a", "b"}, []string{"c"}, 0},
		{of(5, "a", "b"), of(5, "c"), math.MinInt, []string{"a", "b"}, []string{"c"}, 0},
		{of(5, "a", "b"), of(5, "c"), -1 << 32, []string{"a", "b"}, []string{"c"}, 0},
		// There is none.
		{of(5), of(5, "c"), 9, nil, []string{"c"}, 0},
		{api.Ring{}, api.Ring{}, 9, nil, nil, 0},
		// The room of that from which they are taken does not count.
		{of(0, "a", "b"), of(5), 9, nil, []string{"a", "b"}, 2},
		{of(math.MinInt, "a", "b"), of(5), 1, []string{"b"}, []string{"a"}, 1},
	} {
		a, b, many := ring.Move(c.a, c.b, c.most)
		if !like(a, c.a.Room, c.wantA) || !like(b, c.b.Room, c.wantB) || many != c.many {
			t.Errorf("Move(%v, %v, %d): %v, %v, %d, want %v, %v, %d", c.a, c.b, c.most, a, b, many, c.wantA, c.wantB, c.many)
		}
	}
}

// moved is Move by the chapter's words: one after the other is taken and put.
func moved(a, b api.Ring, most int) (api.Ring, api.Ring, int) {
	for n := range most {
		rest, s, err := ring.Take(a)
		if err != api.OK {
			return a, b, n
		}
		more, err := ring.Put(b, s)
		if err != api.OK {
			return a, b, n
		}
		a, b = rest, more
	}
	return a, b, max(most, 0)
}

func TestMoveIsTakeAndPut(t *testing.T) { // P12.10, P12.12
	var ends []api.Ring
	for _, room := range []int{0, 1, 2, 5, 64, 66, -1, math.MinInt, math.MaxInt} {
		for _, l := range lists {
			ends = append(ends, of(room, l...))
		}
	}
	for _, a := range ends {
		for _, b := range ends {
			for _, most := range []int{0, 1, 2, 5, 63, 64, 65, -1, math.MinInt, math.MaxInt} {
				moveIsRight(t, a, b, most)
			}
		}
	}
}

// moveIsRight looks whether Move answers what taking and putting answer, and whether what is moved is there still, in order.
func moveIsRight(t *testing.T, a, b api.Ring, most int) {
	t.Helper()
	gotA, gotB, many := ring.Move(a, b, most)
	wantA, wantB, n := moved(a, b, most)
	if !ring.Same(gotA, wantA) || !ring.Same(gotB, wantB) || many != n {
		t.Fatalf("Move(%v, %v, %d): %v, %v, %d, want %v, %v, %d", a, b, most, gotA, gotB, many, wantA, wantB, n)
	}
	if !slices.Equal(slices.Concat(gotB.L, gotA.L), slices.Concat(b.L, a.L)) {
		t.Fatalf("Move(%v, %v, %d): %v, %v: not all are there, in order", a, b, most, gotA, gotB)
	}
}

func TestMoveOntoItself(t *testing.T) { // P12.10, R3
	q := of(5, "a", "b", "c")
	a, b, many := ring.Move(q, q, 9)
	if !like(a, 5, []string{"c"}) || !like(b, 5, []string{"a", "b", "c", "a", "b"}) || many != 2 || !like(q, 5, []string{"a", "b", "c"}) {
		t.Errorf("Move of one queue: %v, %v, %d, of %v", a, b, many, q)
	}
}

func TestRoomForOne(t *testing.T) { // P12.2, the chapter's example
	q, _ := ring.New(1)
	q, err := ring.Put(q, "a")
	if !like(q, 1, []string{"a"}) || err != api.OK {
		t.Errorf("the first Put: %v, %d", q, err)
	}
	if q, err = ring.Put(q, "b"); !like(q, 1, []string{"a"}) || err != api.ErrFull {
		t.Errorf("the second Put: %v, %d", q, err)
	}
	if q, _, _ = ring.Take(q); !like(q, 1, nil) {
		t.Errorf("Take: %v", q)
	}
	if q, err = ring.Put(q, "b"); !like(q, 1, []string{"b"}) || err != api.OK {
		t.Errorf("Put behind Take: %v, %d", q, err)
	}
}

func TestFirstPutFirstTaken(t *testing.T) { // P12.11
	for room := 1; room <= 64; room++ {
		q, _ := ring.New(room)
		for i, s := range some(70) {
			var err api.Errno
			if q, err = ring.Put(q, s); (err == api.OK) != (i < room) || ring.Long(q) != min(i+1, room) {
				t.Fatalf("Put of %q, with room for %d: %v, %d", s, room, q, err)
			}
		}
		for _, want := range some(room) {
			var s string
			var err api.Errno
			if q, s, err = ring.Take(q); s != want || err != api.OK {
				t.Fatalf("Take, with room for %d: %q, %d, want %q", room, s, err, want)
			}
		}
		if _, s, err := ring.Take(q); s != "" || err != api.ErrNone {
			t.Fatalf("Take of all, with room for %d: %q, %d", room, s, err)
		}
	}
}

// twoQueues does one step to two queues and to the lists that they should hold.
func twoQueues(r *rand.Rand, q [2]api.Ring, l [2][]string, s string) ([2]api.Ring, [2][]string) {
	i := r.Intn(2)
	switch r.Intn(8) {
	case 0, 1, 2:
		if len(l[i]) < q[i].Room {
			l[i] = append(l[i], s)
		}
		q[i], _ = ring.Put(q[i], s)
	case 3:
		l[i] = l[i][min(1, len(l[i])):]
		q[i], _, _ = ring.Take(q[i])
	case 4:
		at := r.Intn(9) - 1
		if at >= 0 && at < len(l[i]) {
			l[i] = slices.Concat(l[i][:at], l[i][at+1:])
		}
		q[i], _ = ring.Drop(q[i], at)
	case 5:
		l[i] = only(l[i])
		q[i], _ = ring.Only(q[i])
	default:
		n := min(r.Intn(6), len(l[i]), q[1-i].Room-len(l[1-i]))
		l[1-i] = slices.Concat(l[1-i], l[i][:n])
		l[i] = slices.Clone(l[i][n:])
		q[i], q[1-i], _ = ring.Move(q[i], q[1-i], n)
	}
	return q, l
}

func TestManySteps(t *testing.T) { // P12.11, P12.12
	r := rand.New(rand.NewSource(12))
	for range 300 {
		var q [2]api.Ring
		var l [2][]string
		q[0], _ = ring.New(1 + r.Intn(9))
		q[1], _ = ring.New(1 + r.Intn(9))
		rooms := [2]int{q[0].Room, q[1].Room}
		for range 200 {
			q, l = twoQueues(r, q, l, string([]byte{byte('a' + r.Intn(12))}))
			for i := range q {
				if !like(q[i], rooms[i], l[i]) || ring.Long(q[i]) > rooms[i] {
					t.Fatalf("%v, want %v with room for %d", q[i], l[i], rooms[i])
				}
			}
		}
	}
}

// held is a list of n texts with room behind its end, and all of that memory.
func held(n int) ([]string, []string) {
	l := append(some(n), "behind", "more", "x", "x")
	return l[:n], l
}

// answers are all queues that calls answer, of queues with those texts, by the calls' names.
func answers(l []string) map[string]api.Ring {
	q := api.Ring{Room: len(l) + 2, L: l}
	full := api.Ring{Room: len(l), L: l}
	m := map[string]api.Ring{}
	m["Put"], _ = ring.Put(q, "new")
	m["Put, full"], _ = ring.Put(full, "new")
	m["Take"], _, _ = ring.Take(q)
	m["Drop of none"], _ = ring.Drop(q, -1)
	m["Drop of the first"], _ = ring.Drop(q, 0)
	m["Drop of the second"], _ = ring.Drop(q, 1)
	m["Drop of the last"], _ = ring.Drop(q, len(l)-1)
	m["Only"], _ = ring.Only(q)
	m["Move, from"], m["Move, to"], _ = ring.Move(q, q, 1)
	m["Move of none, from"], m["Move of none, to"], _ = ring.Move(q, q, 0)
	m["Move of all, from"], m["Move of all, to"], _ = ring.Move(q, api.Ring{Room: 99}, 99)
	m["Move, from, full"], m["Move, to, full"], _ = ring.Move(q, full, 9)
	return m
}

func TestArgumentsStay(t *testing.T) { // R3
	for n := range 9 {
		l, whole := held(n)
		want := slices.Clone(whole)
		answers(l)
		q := api.Ring{Room: 99, L: l}
		ring.Long(q)
		ring.Same(q, q)
		ring.Peek(q, 1)
		ring.Find(q, "x")
		if !slices.Equal(whole, want) {
			t.Errorf("queues of %d: what was handed in was changed: %v, want %v", n, whole, want)
		}
	}
}

func TestAnswersAreNewMemory(t *testing.T) { // R3
	for n := range 9 {
		l, whole := held(n)
		want := slices.Clone(whole)
		told := answers(l)
		kept := map[string][]string{}
		for name, q := range told {
			kept[name] = slices.Clone(q.L)
		}
		for name, q := range told {
			for i := range q.L {
				q.L[i] = "written by " + name
			}
			_ = append(q.L, "put behind "+name)
			if !slices.Equal(whole, want) {
				t.Fatalf("%s of %d shares memory with what was handed in: %v, want %v", name, n, whole, want)
			}
			for other, q := range told {
				if other != name && !slices.Equal(q.L, kept[other]) {
					t.Fatalf("%s and %s of %d share memory", name, other, n)
				}
			}
			copy(q.L, kept[name])
		}
	}
}

func TestPutTwice(t *testing.T) { // P12.2, R3
	q, _ := ring.New(64)
	for _, s := range some(63) {
		a, _ := ring.Put(q, "a")
		b, _ := ring.Put(q, "b")
		_, c, _ := ring.Move(of(1, "c"), q, 1)
		n := ring.Long(q)
		if a.L[n] != "a" || b.L[n] != "b" || c.L[n] != "c" {
			t.Fatalf("three texts put behind the same %d: %v, %v, %v", n, a.L[n], b.L[n], c.L[n])
		}
		q, _ = ring.Put(q, s)
	}
}

func FuzzRing(f *testing.F) { // P12.1 to P12.12
	f.Add("x,y,x", "", 5, 2, 9)
	f.Add("a", "b,c", 1, 1, -1)
	f.Add("", ",,", math.MinInt, math.MaxInt, math.MinInt)
	f.Fuzz(func(t *testing.T, from, to string, room, other, n int) {
		a, b := of(room, strings.Split(from, ",")...), of(other, strings.Split(to, ",")...)
		newIsRight(t, room)
		moveIsRight(t, a, b, n%100)
		gone, _ := ring.Drop(a, n)
		s, is := ring.Peek(a, n)
		if is != (n >= 0 && n < len(a.L)) || is == ring.Same(gone, a) {
			t.Fatalf("Drop(%v, %d): %v; Peek: %q, %t", a, n, gone, s, is)
		}
		if at := ring.Find(a, s); is && (at > n || a.L[at] != s) {
			t.Fatalf("Find(%v, %q): %d", a, s, at)
		}
		if more, err := ring.Put(a, from); (err == api.OK) != (len(a.L) < room) || err == api.OK && !like(more, room, append(slices.Clone(a.L), from)) {
			t.Fatalf("Put(%v, %q): %v, %d", a, from, more, err)
		}
		if got, many := ring.Only(b); !like(got, other, only(b.L)) || many != len(b.L)-len(got.L) {
			t.Fatalf("Only(%v): %v, %d", b, got, many)
		}
	})
}
