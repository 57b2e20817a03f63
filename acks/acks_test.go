package acks_test

import (
	"encoding/binary"
	"math"
	"math/rand"
	"slices"
	"strings"
	"testing"

	"fingerpost/acks"
	"fingerpost/api"
)

const (
	top = math.MaxUint32
	// front is what stands ahead of the next number and the bits of an ack of node 3, of the pair 2.1-9.8.
	front = "\x03\x00\x00\x00\x02\x00\x00\x00\x01\x00\x00\x00\x09\x00\x00\x00\x08"
)

// senders are nodes, and numbers that are none, some of which have a node in their lowest byte.
var senders = []int{0, 1, 2, 7, 14, 15, 16, 17, 255, 256, 259, -1, -2, -16, -253, 1<<32 + 3, math.MinInt, math.MinInt + 5, math.MaxInt}

// nexts are numbers of parts, and numbers that are none, some of which have one in their lowest bytes.
var nexts = []int{0, 1, 2, 7, 8, 255, 256, 513, 32768, 65000, 65527, 65528, 65529, 65534, 65535, 65536, 65537, 65543, 1 << 17, 1<<32 + 5, -1, -2, -7, -8, -65535, -65536, math.MinInt, math.MinInt + 1, math.MinInt + 7, math.MaxInt - 8, math.MaxInt - 7, math.MaxInt - 1, math.MaxInt}

// marks are bits, and numbers that are none, some of which have bits in their lowest byte.
var marks = []int{0, 1, 2, 3, 4, 64, 85, 127, 128, 129, 170, 254, 255, 256, 257, 511, 1 << 20, 1<<32 + 9, -1, -2, -128, -256, math.MinInt, math.MinInt + 3, math.MaxInt}

// pairs are those at which numbers, and ends without a session, are told apart.
var pairs = []api.Pair{
	{},
	of(2, 1, 9, 8),
	of(0, 0, 1, 0),
	of(0, 1, 0, 0),
	of(top, top, top, top),
	of(0x01020304, 0x05060708, 0x090a0b0c, 0x0d0e0f10),
	of(1<<31, 255, 256, 65536),
}

// of is a pair of its four numbers.
func of(boot, local, theirBoot, theirLocal uint32) api.Pair {
	return api.Pair{Mine: api.Epoch{Boot: boot, Local: local}, Theirs: api.Epoch{Boot: theirBoot, Local: theirLocal}}
}

// said is the ack of which front is the front, with this next number and these bits.
func said(next, bits int) api.Ack {
	return api.Ack{From: 3, Pair: of(2, 1, 9, 8), Next: next, Bits: bits}
}

// all are acks of each sender, next number, bits and pair, right ones and others.
func all() []api.Ack {
	var l []api.Ack
	for _, from := range senders {
		for _, next := range nexts {
			for _, bits := range marks {
				for _, pair := range pairs {
					l = append(l, api.Ack{From: from, Pair: pair, Next: next, Bits: bits})
				}
			}
		}
	}
	return l
}

// about are numbers around next, and those at which numbers of parts, and ints, end: none leaves an int.
func about(next int) []int {
	l := []int{math.MinInt, math.MinInt + 1, -65536, -1, 0, 1, 7, 8, 65534, 65535, 65536, 65537, 1<<32 + 5, math.MaxInt - 1, math.MaxInt}
	for by := range 20 {
		if next <= math.MaxInt-by {
			l = append(l, next+by)
		}
		if next >= math.MinInt+by {
			l = append(l, next-by)
		}
	}
	return l
}

// right tells by the chapter's words whether a is right.
func right(a api.Ack) bool {
	return a.From >= 0 && a.From < 16 && a.Next >= 0 && a.Next < 65536 && a.Bits >= 0 && a.Bits < 256
}

// written is a, which is right, in bytes, the highest byte of each number first.
func written(a api.Ack) string {
	b := []byte{byte(a.From)}
	for _, n := range []uint32{a.Pair.Mine.Boot, a.Pair.Mine.Local, a.Pair.Theirs.Boot, a.Pair.Theirs.Local} {
		b = binary.BigEndian.AppendUint32(b, n)
	}
	return string(append(b, byte(a.Next/256), byte(a.Next%256), byte(a.Bits)))
}

// has tells by the chapter's words, in their order, whether seq came.
func has(a api.Ack, seq int) bool {
	if seq < a.Next {
		return true
	}
	if a.Next < 0 || seq > 65535 {
		return false
	}
	for by := range 8 {
		if seq-by == a.Next {
			return a.Bits>>by&1 == 1
		}
	}
	return false
}

// marked is the bits of those of came that are next, or above it by 7 at most.
func marked(next int, came []int) int {
	bits := 0
	for by := range 8 {
		if next >= 0 && next <= math.MaxInt-by && slices.Contains(came, next+by) {
			bits += 1 << by
		}
	}
	return bits
}

// joined is by the chapter's words what a and b say together.
func joined(a, b api.Ack) api.Ack {
	both := b
	if a.Next >= b.Next {
		both = a
	}
	both.Bits = 0
	for by := range 8 {
		if both.Next >= 0 && both.Next < 65536 && (has(a, both.Next+by) || has(b, both.Next+by)) {
			both.Bits += 1 << by
		}
	}
	return both
}

// list is by the chapter's words what a tells.
func list(a api.Ack) []int {
	var l []int
	for by := range 8 {
		if a.Next >= 0 && a.Next < 65536 && has(a, a.Next+by) {
			l = append(l, a.Next+by)
		}
	}
	return l
}

func TestRight(t *testing.T) { // P9.1
	for _, c := range []struct {
		a    api.Ack
		want bool
	}{
		{api.Ack{}, true},
		{said(513, 5), true},
		{api.Ack{From: 15, Next: 65535, Bits: 255}, true},
		{api.Ack{From: 16}, false},
		{api.Ack{From: -1}, false},
		{api.Ack{From: 256}, false},
		{api.Ack{From: math.MinInt}, false},
		{api.Ack{From: math.MaxInt}, false},
		{said(65536, 0), false},
		{said(-1, 0), false},
		{said(math.MinInt, 0), false},
		{said(math.MaxInt, 0), false},
		{said(0, 256), false},
		{said(0, -1), false},
		{said(0, math.MinInt), false},
		{said(0, math.MaxInt), false},
		// Bits of numbers above 65535 make none wrong.
		{said(65535, 254), true},
	} {
		if got := acks.Right(c.a); got != c.want {
			t.Errorf("Right(%v): %t", c.a, got)
		}
	}
	for _, a := range all() {
		if got := acks.Right(a); got != right(a) {
			t.Fatalf("Right(%v): %t", a, got)
		}
	}
}

func TestBytes(t *testing.T) { // P9.2
	for _, c := range []struct {
		a    api.Ack
		want string
		err  api.Errno
	}{
		{api.Ack{}, strings.Repeat("\x00", 20), api.OK},
		{said(513, 5), front + "\x02\x01\x05", api.OK},
		{said(0, 255), front + "\x00\x00\xff", api.OK},
		{said(65535, 0), front + "\xff\xff\x00", api.OK},
		{api.Ack{From: 15, Pair: of(top, top, top, top), Next: 65535, Bits: 255}, "\x0f" + strings.Repeat("\xff", 19), api.OK},
		{api.Ack{From: 16}, "", api.ErrArg},
		{api.Ack{From: -1}, "", api.ErrArg},
		{api.Ack{From: 256}, "", api.ErrArg},
		{said(65536, 0), "", api.ErrArg},
		{said(-1, 0), "", api.ErrArg},
		{said(0, 256), "", api.ErrArg},
		{said(0, -1), "", api.ErrArg},
	} {
		if got, err := acks.Bytes(c.a); got != c.want || err != c.err {
			t.Errorf("Bytes(%v): %q, %d, want %q, %d", c.a, got, err, c.want, c.err)
		}
	}
	for _, a := range all() {
		want, wrong := "", api.ErrArg
		if right(a) {
			want, wrong = written(a), api.OK
		}
		if got, err := acks.Bytes(a); got != want || err != wrong {
			t.Fatalf("Bytes(%v): %q, %d, want %q, %d", a, got, err, want, wrong)
		}
	}
}

func TestEachNextAndBits(t *testing.T) { // P9.1, P9.2, P9.3, P9.8
	check := func(a api.Ack) {
		fine := right(a)
		if acks.Right(a) != fine {
			t.Fatalf("Right(%v): %t", a, !fine)
		}
		s, err := acks.Bytes(a)
		if !fine {
			if s != "" || err != api.ErrArg {
				t.Fatalf("Bytes(%v): %q, %d", a, s, err)
			}
			return
		}
		if s != written(a) || err != api.OK {
			t.Fatalf("Bytes(%v): %q, %d", a, s, err)
		}
		if got, err := acks.Read(s); got != a || err != api.OK {
			t.Fatalf("Read(%q): %v, %d, want %v", s, got, err, a)
		}
	}
	for next := -300; next < 66000; next++ {
		check(said(next, next&255))
	}
	for bits := -600; bits < 600; bits++ {
		check(said(513, bits))
	}
}

func TestRead(t *testing.T) { // P9.3
	for _, c := range []struct {
		s    string
		want api.Ack
		err  api.Errno
	}{
		{"", api.Ack{}, api.ErrShort},
		{"\x03", api.Ack{}, api.ErrShort},
		{front, api.Ack{}, api.ErrShort},
		{front + "\x02\x01", api.Ack{}, api.ErrShort},
		{strings.Repeat("\xff", 19), api.Ack{}, api.ErrShort},
		{strings.Repeat("\x00", 20), api.Ack{}, api.OK},
		{front + "\x02\x01\x05", said(513, 5), api.OK},
		{front + "\xff\xff\xff", said(65535, 255), api.OK},
		{"\x0f" + strings.Repeat("\xff", 19), api.Ack{From: 15, Pair: of(top, top, top, top), Next: 65535, Bits: 255}, api.OK},
		{front + "\x02\x01\x05\x00", api.Ack{}, api.ErrForm},
		{front + "\x02\x01\x05" + front + "\x02\x01\x05", api.Ack{}, api.ErrForm},
		{"\x10" + front[1:] + "\x02\x01\x05", api.Ack{}, api.ErrForm},
		{"\xff" + front[1:] + "\x02\x01\x05", api.Ack{}, api.ErrForm},
		{"\x10" + front[1:] + "\x02\x01\x05x", api.Ack{}, api.ErrForm},
		// Too few bytes count more than what they begin with.
		{"\x10" + front[1:] + "\x02\x01", api.Ack{}, api.ErrShort},
	} {
		if got, err := acks.Read(c.s); got != c.want || err != c.err {
			t.Errorf("Read(%q): %v, %d, want %v, %d", c.s, got, err, c.want, c.err)
		}
	}
}

func TestReadOfEachFromAndLength(t *testing.T) { // P9.3
	for from := range 256 {
		long := string([]byte{byte(from)}) + front[1:] + "\x02\x01\x05" + strings.Repeat("\x00", 30)
		for n := range len(long) + 1 {
			var want api.Ack
			wrong := api.OK
			switch {
			case n < 20:
				wrong = api.ErrShort
			case n > 20 || from > 15:
				wrong = api.ErrForm
			default:
				want = said(513, 5)
				want.From = from
			}
			if got, err := acks.Read(long[:n]); got != want || err != wrong {
				t.Fatalf("Read(%q): %v, %d, want %v, %d", long[:n], got, err, want, wrong)
			}
		}
	}
}

func TestHas(t *testing.T) { // P9.4
	for _, c := range []struct {
		a    api.Ack
		seq  int
		want bool
	}{
		{said(5, 0), 4, true},
		{said(5, 0), 0, true},
		{said(5, 0), 5, false},
		{said(5, 1), 5, true},
		{said(5, 254), 5, false},
		{said(5, 4), 7, true},
		{said(5, 4), 6, false},
		{said(5, 4), 8, false},
		{said(5, 128), 12, true},
		{said(5, 127), 12, false},
		{said(5, 255), 13, false},
		{said(5, 256), 13, false},
		{said(5, -1), 12, true},
		{said(5, -1), 13, false},
		// All below Next came, whatever they are.
		{api.Ack{}, -1, true},
		{api.Ack{}, -5, true},
		{api.Ack{}, math.MinInt, true},
		{said(-1, 0), -2, true},
		{said(-1, 255), math.MinInt, true},
		{said(70000, 0), 65536, true},
		{said(70000, 0), 69999, true},
		{said(math.MaxInt, 0), math.MaxInt - 1, true},
		// Of a Next below 0 no other one came.
		{said(-1, 255), -1, false},
		{said(-1, 255), 0, false},
		{said(-1, -1), 6, false},
		{said(math.MinInt, 255), math.MinInt, false},
		{said(math.MinInt, -1), 0, false},
		{said(math.MinInt, -1), math.MaxInt, false},
		// Above 65535 there are none.
		{said(65535, 1), 65535, true},
		{said(65535, 255), 65536, false},
		{said(65528, 255), 65535, true},
		{said(65529, 255), 65535, true},
		{said(65529, 255), 65536, false},
		{said(65536, 255), 65536, false},
		{said(70000, 255), 70000, false},
		{said(math.MaxInt, 255), math.MaxInt, false},
		{said(0, 255), math.MaxInt, false},
		{said(0, math.MinInt), 63, false},
		{said(0, -1), 63, false},
	} {
		if got := acks.Has(c.a, c.seq); got != c.want {
			t.Errorf("Has(%v, %d): %t", c.a, c.seq, got)
		}
	}
	for _, next := range nexts {
		for _, bits := range marks {
			a := said(next, bits)
			for _, seq := range about(next) {
				if got := acks.Has(a, seq); got != has(a, seq) {
					t.Fatalf("Has(%v, %d): %t", a, seq, got)
				}
			}
		}
	}
}

func TestHasOfEachBits(t *testing.T) { // P9.4
	for bits := range 512 {
		for _, next := range []int{0, 1, 300, 65525, 65528, 65531, 65535} {
			a := said(next, bits)
			for seq := next - 3; seq < next+12; seq++ {
				if got := acks.Has(a, seq); got != has(a, seq) {
					t.Fatalf("Has(%v, %d): %t", a, seq, got)
				}
			}
		}
	}
}

func TestHasAsksNobody(t *testing.T) { // P9.4
	// Who sent it, and of which session, does not count: not even whether there is such a node.
	for _, from := range senders {
		for _, pair := range pairs {
			a := api.Ack{From: from, Pair: pair, Next: 5, Bits: 4}
			if !acks.Has(a, 4) || acks.Has(a, 5) || acks.Has(a, 6) || !acks.Has(a, 7) || acks.Has(a, 8) {
				t.Errorf("Has of %v is wrong", a)
			}
		}
	}
}

func TestOf(t *testing.T) { // P9.5
	for _, c := range []struct {
		next int
		came []int
		want int
	}{
		{5, nil, 0},
		{5, []int{7}, 4},
		{5, []int{5}, 1},
		{5, []int{4}, 0},
		{5, []int{12}, 128},
		{5, []int{13}, 0},
		{5, []int{13, 4, -1, 69, 261, 5 + 1<<32, 7 - 1<<32}, 0},
		{5, []int{7, 7, 7}, 4},
		{5, []int{12, 5, 7, 5}, 133},
		{5, []int{5, 6, 7, 8, 9, 10, 11, 12, 13}, 255},
		{0, []int{0, -1, 1}, 3},
		{0, []int{math.MinInt, math.MaxInt, math.MinInt + 1}, 0},
		{-1, []int{-1, 0, 1}, 0},
		{-8, []int{-8, -7, -1}, 0},
		{math.MinInt, []int{math.MinInt, math.MinInt + 1, 0, math.MaxInt}, 0},
		// No word of the chapter ends what came at 65535.
		{65535, []int{65535, 65536}, 3},
		{65536, []int{65536, 65538}, 5},
		{math.MaxInt, []int{math.MaxInt, math.MinInt, 0}, 1},
		{math.MaxInt - 2, []int{math.MaxInt, math.MinInt}, 4},
	} {
		if next, bits := acks.Of(c.next, c.came); next != c.next || bits != c.want {
			t.Errorf("Of(%d, %v): %d, %d, want %d", c.next, c.came, next, bits, c.want)
		}
	}
}

func TestOfAny(t *testing.T) { // P9.5
	r := rand.New(rand.NewSource(9))
	for range 50000 {
		next := nexts[r.Intn(len(nexts))]
		from := about(next)
		var came []int
		for range r.Intn(12) {
			came = append(came, from[r.Intn(len(from))])
		}
		if got, bits := acks.Of(next, came); got != next || bits != marked(next, came) {
			t.Fatalf("Of(%d, %v): %d, %d, want %d", next, came, got, bits, marked(next, came))
		}
	}
	many := make([]int, 1<<16)
	for i := range many {
		many[i] = 2 * i
	}
	if next, bits := acks.Of(99, many); next != 99 || bits != 170 {
		t.Errorf("Of(99, of many): %d, %d", next, bits)
	}
}

func TestBoth(t *testing.T) { // P9.6
	other := func(next, bits int) api.Ack {
		return api.Ack{From: 9, Pair: of(7, 7, 7, 7), Next: next, Bits: bits}
	}
	for _, c := range []struct{ a, b, want api.Ack }{
		{api.Ack{}, api.Ack{}, api.Ack{}},
		{api.Ack{Next: 5, Bits: 2}, api.Ack{Next: 3, Bits: 16}, api.Ack{Next: 5, Bits: 6}},
		// The greater one says who and which session, the first one of two that are as great.
		{said(5, 2), other(3, 16), said(5, 6)},
		{other(3, 16), said(5, 2), said(5, 6)},
		{said(5, 2), other(6, 2), other(6, 3)},
		{said(5, 2), other(5, 9), said(5, 11)},
		{other(5, 9), said(5, 2), other(5, 11)},
		{said(5, 255), other(12, 0), other(12, 1)},
		{said(5, 255), other(13, 0), other(13, 0)},
		{said(5, 128), other(6, 128), other(6, 192)},
		// Bits of what is nowhere near are not taken along.
		{said(5, 256), other(6, 512), other(6, 0)},
		{said(5, 0), other(5, -256), said(5, 0)},
		{said(5, -1), other(5, 0), said(5, 255)},
		{said(5, -1), other(7, 0), other(7, 63)},
		{said(65535, 255), other(65535, 0), said(65535, 1)},
		{said(65530, 255), other(65533, 0), other(65533, 7)},
		{said(65530, 255), other(65530, 192), said(65530, 63)},
		// A Next that is no number of a part has no bits.
		{said(65536, 255), other(65536, 255), said(65536, 0)},
		{said(65536, 255), other(65535, 255), said(65536, 0)},
		{said(math.MaxInt, 255), other(3, 255), said(math.MaxInt, 0)},
		{said(math.MaxInt, 255), other(math.MaxInt, 255), said(math.MaxInt, 0)},
		{said(-1, 255), other(-1, 255), said(-1, 0)},
		{said(-1, 255), other(-2, 255), said(-1, 0)},
		{said(math.MinInt, 255), other(-2, 255), other(-2, 0)},
		{said(math.MinInt, 255), other(math.MinInt, 255), said(math.MinInt, 0)},
		{said(-1, 255), other(0, 8), other(0, 8)},
		{said(0, 8), other(math.MinInt, 255), said(0, 8)},
		// Neither must be right.
		{api.Ack{From: -7, Next: 4, Bits: 1}, api.Ack{From: 99, Next: 4, Bits: 2}, api.Ack{From: -7, Next: 4, Bits: 3}},
	} {
		if got := acks.Both(c.a, c.b); got != c.want {
			t.Errorf("Both(%v, %v): %v, want %v", c.a, c.b, got, c.want)
		}
	}
}

func TestBothOfAny(t *testing.T) { // P9.6
	for _, an := range nexts {
		for _, bn := range nexts {
			for _, ab := range marks {
				for _, bb := range marks {
					a, b := said(an, ab), api.Ack{From: 16, Pair: pairs[4], Next: bn, Bits: bb}
					if got := acks.Both(a, b); got != joined(a, b) {
						t.Fatalf("Both(%v, %v): %v, want %v", a, b, got, joined(a, b))
					}
				}
			}
		}
	}
}

func TestTold(t *testing.T) { // P9.7
	for _, c := range []struct {
		a    api.Ack
		want []int
	}{
		{api.Ack{}, nil},
		{said(5, 0), nil},
		{said(5, 6), []int{6, 7}},
		{said(5, 129), []int{5, 12}},
		{said(0, 255), []int{0, 1, 2, 3, 4, 5, 6, 7}},
		{said(0, 256), nil},
		{said(0, 511), []int{0, 1, 2, 3, 4, 5, 6, 7}},
		{said(9, -1), []int{9, 10, 11, 12, 13, 14, 15, 16}},
		{said(65528, 255), []int{65528, 65529, 65530, 65531, 65532, 65533, 65534, 65535}},
		{said(65529, 255), []int{65529, 65530, 65531, 65532, 65533, 65534, 65535}},
		{said(65535, 255), []int{65535}},
		{said(65535, 254), nil},
		{said(65536, 255), nil},
		{said(math.MaxInt, 255), nil},
		{said(-1, 255), nil},
		{said(-8, -1), nil},
		{said(math.MinInt, 255), nil},
		{api.Ack{From: 99, Next: 2, Bits: 3}, []int{2, 3}},
	} {
		if got := acks.Told(c.a); !slices.Equal(got, c.want) {
			t.Errorf("Told(%v): %v, want %v", c.a, got, c.want)
		}
	}
	for _, next := range nexts {
		for bits := range 256 {
			if got := acks.Told(said(next, bits)); !slices.Equal(got, list(said(next, bits))) {
				t.Fatalf("Told(%v): %v", said(next, bits), got)
			}
		}
		for _, bits := range marks {
			if got := acks.Told(said(next, bits)); !slices.Equal(got, list(said(next, bits))) {
				t.Fatalf("Told(%v): %v", said(next, bits), got)
			}
		}
	}
}

func TestArgumentsStay(t *testing.T) { // R3
	for many := range 9 {
		held := []int{12, 5, 5, 8, 6, 90, -1, 4, 7, 10, 11}
		want := slices.Clone(held)
		acks.Of(5, held[:many])
		if !slices.Equal(held, want) {
			t.Errorf("Of with %d changed what it was given: %v", many, held)
		}
	}
}

func TestToldAnswersNewMemory(t *testing.T) { // P9.7, R3
	for bits := range 256 {
		a := said(9, bits)
		want := list(a)
		first, second := acks.Told(a), acks.Told(a)
		clear(first)
		_ = append(first, 1, 2, 3, 4, 5, 6, 7, 8)
		if !slices.Equal(second, want) || !slices.Equal(acks.Told(a), want) {
			t.Fatalf("Told(%v): %v, want %v", a, second, want)
		}
	}
}

func TestWrittenIsRead(t *testing.T) { // P9.8
	for _, a := range all() {
		if !right(a) {
			continue
		}
		s, err := acks.Bytes(a)
		if len(s) != 20 || err != api.OK {
			t.Fatalf("Bytes(%v): %q, %d", a, s, err)
		}
		if got, err := acks.Read(s); got != a || err != api.OK {
			t.Fatalf("Read(Bytes(%v)): %v, %d", a, got, err)
		}
	}
}

// readIsWritten looks whether s is written so again, where it is read, and is told to be wrong by the chapter's words, where it is not.
func readIsWritten(t *testing.T, s string) {
	t.Helper()
	a, err := acks.Read(s)
	if err == api.OK {
		if again, err := acks.Bytes(a); again != s || err != api.OK || !acks.Right(a) {
			t.Fatalf("Bytes(Read(%q)): %q, %d", s, again, err)
		}
		return
	}
	want := api.ErrForm
	if len(s) < 20 {
		want = api.ErrShort
	}
	if (a != api.Ack{}) || err != want || len(s) == 20 && s[0] < 16 {
		t.Fatalf("Read(%q): %v, %d, want %d", s, a, err, want)
	}
}

func TestReadIsWritten(t *testing.T) { // P9.8
	r := rand.New(rand.NewSource(98))
	for range 50000 {
		b := make([]byte, 16+r.Intn(8)/2*r.Intn(3))
		if r.Intn(3) > 0 {
			b = make([]byte, 20)
		}
		for i := range b {
			b[i] = byte(r.Intn(256))
		}
		b[0] = byte(r.Intn(20))
		readIsWritten(t, string(b))
	}
}

func FuzzReadIsWritten(f *testing.F) { // P9.8
	f.Add(front + "\x02\x01\x05")
	f.Add(front)
	f.Add("\x10" + front[1:] + "\x02\x01\x05x")
	f.Fuzz(readIsWritten)
}

func TestWhatCameIsTold(t *testing.T) { // P9.8
	r := rand.New(rand.NewSource(89))
	for range 50000 {
		next := r.Intn(65536)
		if r.Intn(4) == 0 {
			next = 65535 - r.Intn(12)
		}
		var came, want []int
		for range r.Intn(10) {
			came = append(came, next-4+r.Intn(16))
		}
		for seq := next; seq < next+8 && seq < 65536; seq++ {
			if slices.Contains(came, seq) {
				want = append(want, seq)
			}
		}
		var a api.Ack
		a.Next, a.Bits = acks.Of(next, came)
		if got := acks.Told(a); a.Next != next || !acks.Right(a) || !slices.Equal(got, want) {
			t.Fatalf("Told of Of(%d, %v): %v, want %v", next, came, got, want)
		}
		for _, seq := range want {
			if !acks.Has(a, seq) {
				t.Fatalf("Has(%v, %d): false", a, seq)
			}
		}
		s, _ := acks.Bytes(a)
		if read, _ := acks.Read(s); !slices.Equal(acks.Told(read), want) {
			t.Fatalf("Told of what was written and read of %v: %v", a, acks.Told(read))
		}
	}
}

// eitherIsBoth looks whether both together have seq just where either has it.
func eitherIsBoth(t *testing.T, a, b api.Ack, seq int) {
	t.Helper()
	for _, both := range []api.Ack{acks.Both(a, b), acks.Both(b, a)} {
		if acks.Has(both, seq) != (acks.Has(a, seq) || acks.Has(b, seq)) {
			t.Fatalf("Has(%v, %d): %t, of both %v and %v", both, seq, acks.Has(both, seq), a, b)
		}
	}
}

func TestBothHaveWhatEitherHas(t *testing.T) { // P9.9
	r := rand.New(rand.NewSource(99))
	for _, an := range nexts {
		for _, bn := range nexts {
			for range 20 {
				a, b := said(an, marks[r.Intn(len(marks))]), said(bn, marks[r.Intn(len(marks))])
				for _, seq := range append(about(an), about(bn)...) {
					eitherIsBoth(t, a, b, seq)
				}
			}
		}
	}
	for range 50000 {
		next := r.Intn(65536)
		a, b := said(next, r.Intn(256)), said(next+r.Intn(12), r.Intn(256))
		for seq := next - 2; seq < next+24; seq++ {
			eitherIsBoth(t, a, b, seq)
		}
	}
}

func FuzzBothHaveWhatEitherHas(f *testing.F) { // P9.9
	f.Add(5, 2, 3, 16, 7)
	f.Add(65535, 255, 65530, 255, 65536)
	f.Add(math.MinInt, -1, math.MaxInt, -1, 0)
	f.Fuzz(func(t *testing.T, an, ab, bn, bb, seq int) {
		a, b := said(an, ab), said(bn, bb)
		eitherIsBoth(t, a, b, seq)
		if got := acks.Has(a, seq); got != has(a, seq) {
			t.Fatalf("Has(%v, %d): %t", a, seq, got)
		}
		if got := acks.Both(a, b); got != joined(a, b) {
			t.Fatalf("Both(%v, %v): %v", a, b, got)
		}
		if got := acks.Told(a); !slices.Equal(got, list(a)) {
			t.Fatalf("Told(%v): %v", a, got)
		}
	})
}
