package parcel_test

import (
	"encoding/binary"
	"math"
	"math/rand"
	"slices"
	"strings"
	"testing"

	"fingerpost/api"
	"fingerpost/parcel"
)

const (
	top = math.MaxUint32
	// front is what stands ahead of the body of a parcel of node 3, of the pair 2.1-9.8, from node 10 to node 5, with seven hops.
	front = "\x03\x00\x00\x00\x02\x00\x00\x00\x01\x00\x00\x00\x09\x00\x00\x00\x08\xa5\x07"
)

// numbers are nodes, and numbers that are none, some of which have a node in their lowest bits.
var numbers = []int{0, 1, 7, 14, 15, 16, 17, 255, 256, 259, -1, -2, -16, -253, 1<<32 + 3, math.MinInt, math.MinInt + 5, math.MaxInt}

// hops are those that a parcel may have, and others, some of which have such ones in their lowest byte.
var hops = []int{1, 2, 3, 63, 64, 0, 65, 66, 127, 128, 255, 256, 257, 320, 1<<32 + 5, -1, -2, -64, -192, -255, math.MinInt, math.MinInt + 7, math.MaxInt}

// bodies are texts that a parcel may carry, and such as are too long.
var bodies = []string{"", "x", "a text", "\x00", "\xff\xfe", "\x05ab", strings.Repeat("b", 63), strings.Repeat("\x00", 64), strings.Repeat("y", 65), strings.Repeat("z", 255), strings.Repeat("z", 256), strings.Repeat("z", 320)}

// pairs are those at which numbers, and ends without a session, are told apart.
var pairs = []api.Pair{
	{},
	of(2, 1, 9, 8),
	of(0, 0, 1, 0),
	of(0, 1, 0, 0),
	of(top, top, top, top),
	of(0x01020304, 0x05060708, 0x090a0b0c, 0x0d0e0f10),
	of(1<<31, 255, 256, 65536),
}

// of is a pair of its four numbers.
func of(boot, local, theirBoot, theirLocal uint32) api.Pair {
	return api.Pair{Mine: api.Epoch{Boot: boot, Local: local}, Theirs: api.Epoch{Boot: theirBoot, Local: theirLocal}}
}

// sent is the parcel of which front is the front, with this body.
func sent(body string) api.Parcel {
	return api.Parcel{From: 3, Pair: of(2, 1, 9, 8), Src: 10, Dst: 5, Ttl: 7, Body: body}
}

// changed is sent("ab") with the fields that change sets.
func changed(change func(p *api.Parcel)) api.Parcel {
	p := sent("ab")
	change(&p)
	return p
}

// all are parcels of each sender, end, hops and body, right ones and others.
func all() []api.Parcel {
	var l []api.Parcel
	for _, from := range numbers {
		for i, src := range numbers {
			for _, ttl := range hops {
				for j, body := range bodies {
					// Each pair and each node to which it goes comes beside many others.
					dst := numbers[(i*i+j+len(l)/5)%len(numbers)]
					l = append(l, api.Parcel{From: from, Pair: pairs[len(l)%len(pairs)], Src: src, Dst: dst, Ttl: ttl, Body: body})
				}
			}
		}
	}
	return l
}

// isNode tells by the chapter's words whether n is a node.
func isNode(n int) bool {
	return n >= 0 && n <= 15
}

// right tells by the chapter's words whether p is right.
func right(p api.Parcel) bool {
	return isNode(p.From) && isNode(p.Src) && isNode(p.Dst) && p.Ttl >= 1 && p.Ttl <= 64 && len(p.Body) <= 64
}

// written is p, which is right, in bytes, the highest byte of each number first.
func written(p api.Parcel) string {
	b := []byte{byte(p.From)}
	for _, n := range []uint32{p.Pair.Mine.Boot, p.Pair.Mine.Local, p.Pair.Theirs.Boot, p.Pair.Theirs.Local} {
		b = binary.BigEndian.AppendUint32(b, n)
	}
	b = append(b, byte(p.Src<<4|p.Dst), byte(p.Ttl), byte(len(p.Body)))
	return string(append(b, p.Body...))
}

// fault tells by the chapter's words, in their order, what is wrong with s as a parcel.
func fault(s string) api.Errno {
	switch {
	case len(s) < 20:
		return api.ErrShort
	case len(s) < 20+int(s[19]):
		return api.ErrShort
	case len(s) > 20+int(s[19]), s[0] > 15, s[18] < 1, s[18] > 64, s[19] > 64:
		return api.ErrForm
	}
	return api.OK
}

func TestRight(t *testing.T) { // P10.1
	for _, c := range []struct {
		p    api.Parcel
		want bool
	}{
		{api.Parcel{}, false},
		{api.Parcel{Ttl: 1}, true},
		{api.Parcel{From: 15, Src: 15, Dst: 15, Ttl: 64, Body: strings.Repeat("\xff", 64)}, true},
		{sent(""), true},
		{sent("ab"), true},
		// Nobody forbids a parcel to itself, or one that is of no session.
		{api.Parcel{From: 4, Src: 4, Dst: 4, Ttl: 9}, true},
		{changed(func(p *api.Parcel) { p.Pair = api.Pair{} }), true},
		{changed(func(p *api.Parcel) { p.From = 16 }), false},
		{changed(func(p *api.Parcel) { p.From = -1 }), false},
		{changed(func(p *api.Parcel) { p.From = 256 }), false},
		{changed(func(p *api.Parcel) { p.From = math.MinInt }), false},
		{changed(func(p *api.Parcel) { p.From = math.MaxInt }), false},
		{changed(func(p *api.Parcel) { p.Src = 16 }), false},
		{changed(func(p *api.Parcel) { p.Src = -1 }), false},
		{changed(func(p *api.Parcel) { p.Src = math.MinInt }), false},
		{changed(func(p *api.Parcel) { p.Src = math.MaxInt }), false},
		{changed(func(p *api.Parcel) { p.Dst = 16 }), false},
		{changed(func(p *api.Parcel) { p.Dst = -1 }), false},
		{changed(func(p *api.Parcel) { p.Dst = math.MinInt }), false},
		{changed(func(p *api.Parcel) { p.Dst = math.MaxInt }), false},
		{changed(func(p *api.Parcel) { p.Ttl = 1 }), true},
		{changed(func(p *api.Parcel) { p.Ttl = 64 }), true},
		{changed(func(p *api.Parcel) { p.Ttl = 0 }), false},
		{changed(func(p *api.Parcel) { p.Ttl = 65 }), false},
		{changed(func(p *api.Parcel) { p.Ttl = -1 }), false},
		{changed(func(p *api.Parcel) { p.Ttl = 257 }), false},
		{changed(func(p *api.Parcel) { p.Ttl = math.MinInt }), false},
		{changed(func(p *api.Parcel) { p.Ttl = math.MaxInt }), false},
		{sent(strings.Repeat("x", 64)), true},
		{sent(strings.Repeat("x", 65)), false},
		{sent(strings.Repeat("x", 256)), false},
		{sent(strings.Repeat("x", 1<<20)), false},
		// Bytes count, not runes.
		{sent(strings.Repeat("ä", 32)), true},
		{sent(strings.Repeat("ä", 33)), false},
	} {
		if got := parcel.Right(c.p); got != c.want {
			t.Errorf("Right(%v): %t", c.p, got)
		}
	}
	for _, p := range all() {
		if got := parcel.Right(p); got != right(p) {
			t.Fatalf("Right(%v): %t", p, got)
		}
	}
}

func TestBytes(t *testing.T) { // P10.2
	for _, c := range []struct {
		p    api.Parcel
		want string
		err  api.Errno
	}{
		{api.Parcel{Ttl: 1}, strings.Repeat("\x00", 18) + "\x01\x00", api.OK},
		{sent(""), front + "\x00", api.OK},
		{sent("ab"), front + "\x02ab", api.OK},
		{sent("\x00"), front + "\x01\x00", api.OK},
		{sent(strings.Repeat("x", 64)), front + "\x40" + strings.Repeat("x", 64), api.OK},
		{api.Parcel{From: 15, Pair: of(top, top, top, top), Src: 15, Dst: 15, Ttl: 64}, "\x0f" + strings.Repeat("\xff", 17) + "\x40\x00", api.OK},
		{changed(func(p *api.Parcel) { p.Src, p.Dst = 1, 0 }), front[:17] + "\x10\x07\x02ab", api.OK},
		{changed(func(p *api.Parcel) { p.Src, p.Dst = 0, 1 }), front[:17] + "\x01\x07\x02ab", api.OK},
		{changed(func(p *api.Parcel) { p.Ttl = 1 }), front[:18] + "\x01\x02ab", api.OK},
		{api.Parcel{}, "", api.ErrArg},
		{sent(strings.Repeat("x", 65)), "", api.ErrArg},
		{sent(strings.Repeat("x", 256)), "", api.ErrArg},
		{changed(func(p *api.Parcel) { p.From = 16 }), "", api.ErrArg},
		{changed(func(p *api.Parcel) { p.From = 256 }), "", api.ErrArg},
		{changed(func(p *api.Parcel) { p.From = -1 }), "", api.ErrArg},
		{changed(func(p *api.Parcel) { p.Src = 16 }), "", api.ErrArg},
		{changed(func(p *api.Parcel) { p.Src = -1 }), "", api.ErrArg},
		{changed(func(p *api.Parcel) { p.Dst = 16 }), "", api.ErrArg},
		{changed(func(p *api.Parcel) { p.Dst = -1 }), "", api.ErrArg},
		// Together they would have room in their byte.
		{changed(func(p *api.Parcel) { p.Src, p.Dst = 1, 16 }), "", api.ErrArg},
		{changed(func(p *api.Parcel) { p.Src, p.Dst = 1, -16 }), "", api.ErrArg},
		{changed(func(p *api.Parcel) { p.Ttl = 0 }), "", api.ErrArg},
		{changed(func(p *api.Parcel) { p.Ttl = 65 }), "", api.ErrArg},
		{changed(func(p *api.Parcel) { p.Ttl = 257 }), "", api.ErrArg},
	} {
		if got, err := parcel.Bytes(c.p); got != c.want || err != c.err {
			t.Errorf("Bytes(%v): %q, %d, want %q, %d", c.p, got, err, c.want, c.err)
		}
	}
	for _, p := range all() {
		want, wrong := "", api.ErrArg
		if right(p) {
			want, wrong = written(p), api.OK
		}
		if got, err := parcel.Bytes(p); got != want || err != wrong {
			t.Fatalf("Bytes(%v): %q, %d, want %q, %d", p, got, err, want, wrong)
		}
	}
}

func TestWithoutBodyHas20Bytes(t *testing.T) { // P10.2
	for _, p := range all() {
		p.Body = ""
		if s, err := parcel.Bytes(p); err == api.OK && len(s) != 20 {
			t.Fatalf("Bytes(%v): %q", p, s)
		}
	}
}

func TestRead(t *testing.T) { // P10.3
	for _, c := range []struct {
		s    string
		want api.Parcel
		err  api.Errno
	}{
		{"", api.Parcel{}, api.ErrShort},
		{"\x03", api.Parcel{}, api.ErrShort},
		{front, api.Parcel{}, api.ErrShort},
		{strings.Repeat("\xff", 19), api.Parcel{}, api.ErrShort},
		{front + "\x00", sent(""), api.OK},
		{front + "\x02ab", sent("ab"), api.OK},
		{front + "\x01\x00", sent("\x00"), api.OK},
		{front + "\x40" + strings.Repeat("x", 64), sent(strings.Repeat("x", 64)), api.OK},
		{strings.Repeat("\x00", 18) + "\x01\x00", api.Parcel{Ttl: 1}, api.OK},
		{"\x0f" + strings.Repeat("\xff", 17) + "\x40\x00", api.Parcel{From: 15, Pair: of(top, top, top, top), Src: 15, Dst: 15, Ttl: 64}, api.OK},
		{front[:17] + "\x10\x07\x02ab", changed(func(p *api.Parcel) { p.Src, p.Dst = 1, 0 }), api.OK},
		// A body ends too soon.
		{front + "\x01", api.Parcel{}, api.ErrShort},
		{front + "\x05ab", api.Parcel{}, api.ErrShort},
		{front + "\x40" + strings.Repeat("x", 63), api.Parcel{}, api.ErrShort},
		{front + "\xff" + strings.Repeat("x", 254), api.Parcel{}, api.ErrShort},
		// That counts more than what stands ahead of it.
		{"\x10" + front[1:], api.Parcel{}, api.ErrShort},
		{"\x10" + front[1:] + "\x05ab", api.Parcel{}, api.ErrShort},
		{front[:18] + "\x00\x05ab", api.Parcel{}, api.ErrShort},
		{front[:18] + "\x41\x41" + strings.Repeat("x", 64), api.Parcel{}, api.ErrShort},
		// Something follows.
		{front + "\x00x", api.Parcel{}, api.ErrForm},
		{front + "\x02abc", api.Parcel{}, api.ErrForm},
		{front + "\x02ab" + front + "\x02ab", api.Parcel{}, api.ErrForm},
		{front + "\x40" + strings.Repeat("x", 65), api.Parcel{}, api.ErrForm},
		{strings.Repeat("\x00", 18) + "\x01\x00\x00", api.Parcel{}, api.ErrForm},
		// It is not right.
		{strings.Repeat("\x00", 20), api.Parcel{}, api.ErrForm},
		{"\x10" + front[1:] + "\x02ab", api.Parcel{}, api.ErrForm},
		{"\xff" + front[1:] + "\x02ab", api.Parcel{}, api.ErrForm},
		{front[:18] + "\x00\x02ab", api.Parcel{}, api.ErrForm},
		{front[:18] + "\x41\x02ab", api.Parcel{}, api.ErrForm},
		{front[:18] + "\xff\x02ab", api.Parcel{}, api.ErrForm},
		{front + "\x41" + strings.Repeat("x", 65), api.Parcel{}, api.ErrForm},
		{front + "\xff" + strings.Repeat("x", 255), api.Parcel{}, api.ErrForm},
		{"\x10" + front[1:] + "\x02abc", api.Parcel{}, api.ErrForm},
	} {
		if got, err := parcel.Read(c.s); got != c.want || err != c.err {
			t.Errorf("Read(%q): %v, %d, want %v, %d", c.s, got, err, c.want, c.err)
		}
	}
}

func TestReadOfEachByte(t *testing.T) { // P10.3
	for _, at := range []int{0, 1, 4, 16, 17, 18, 19} {
		for b := range 256 {
			for _, long := range []int{20, 22, 50, 84, 85, 275, 280} {
				s := []byte(front + "\x02" + strings.Repeat("a", 260))[:long]
				s[at] = byte(b)
				readIsWritten(t, string(s))
			}
		}
	}
}

func TestReadOfEachLength(t *testing.T) { // P10.3
	for body := range 256 {
		long := front + string([]byte{byte(body)}) + strings.Repeat("e", 300)
		for n := range len(long) + 1 {
			var want api.Parcel
			wrong := api.OK
			switch {
			case n < 20+body:
				wrong = api.ErrShort
			case n > 20+body || body > 64:
				wrong = api.ErrForm
			default:
				want = sent(strings.Repeat("e", body))
			}
			if got, err := parcel.Read(long[:n]); got != want || err != wrong {
				t.Fatalf("Read(%q): %v, %d, want %v, %d", long[:n], got, err, want, wrong)
			}
		}
	}
}

func TestHop(t *testing.T) { // P10.4
	with := func(ttl int) api.Parcel { return changed(func(p *api.Parcel) { p.Ttl = ttl }) }
	for _, c := range []struct {
		p    api.Parcel
		want int
		is   bool
	}{
		{with(7), 6, true},
		{with(2), 1, true},
		{with(64), 63, true},
		{with(1), 0, false},
		{with(0), 0, false},
		{with(-1), 0, false},
		{with(-5), 0, false},
		{with(math.MinInt), 0, false},
		// It must not be right.
		{with(65), 64, true},
		{with(math.MaxInt), math.MaxInt - 1, true},
		{api.Parcel{From: -7, Src: 99, Dst: math.MinInt, Ttl: 3, Body: strings.Repeat("x", 300)}, 2, true},
	} {
		for _, from := range numbers {
			for _, pair := range pairs {
				var want api.Parcel
				if c.is {
					want = c.p
					want.From, want.Pair, want.Ttl = from, pair, c.want
				}
				if got, is := parcel.Hop(c.p, from, pair); got != want || is != c.is {
					t.Errorf("Hop(%v, %d, %v): %v, %t, want %v, %t", c.p, from, pair, got, is, want, c.is)
				}
			}
		}
	}
}

func TestHopOfAny(t *testing.T) { // P10.4
	for i, p := range all() {
		from, pair := numbers[i%len(numbers)], pairs[i/3%len(pairs)]
		got, is := parcel.Hop(p, from, pair)
		if is != (p.Ttl > 1) || !is && got != (api.Parcel{}) {
			t.Fatalf("Hop(%v): %v, %t", p, got, is)
		}
		if want := (api.Parcel{From: from, Pair: pair, Src: p.Src, Dst: p.Dst, Ttl: p.Ttl - 1, Body: p.Body}); is && got != want {
			t.Fatalf("Hop(%v, %d, %v): %v", p, from, pair, got)
		}
	}
}

func TestHopsAreFewer(t *testing.T) { // P10.8
	for ttl := -300; ttl < 300; ttl++ {
		p := changed(func(p *api.Parcel) { p.Ttl = ttl })
		many := 0
		for is := true; is; {
			if p, is = parcel.Hop(p, many%16, pairs[many%len(pairs)]); is {
				many++
			}
		}
		if want := max(ttl-1, 0); many != want {
			t.Errorf("a parcel with %d hops: %d, want %d", ttl, many, want)
		}
	}
}

func TestHoppedIsRight(t *testing.T) { // P10.4, P10.1
	for ttl := 2; ttl <= 64; ttl++ {
		p, is := parcel.Hop(changed(func(p *api.Parcel) { p.Ttl = ttl }), 9, pairs[1])
		if !is || !parcel.Right(p) || p.From != 9 || p.Ttl != ttl-1 {
			t.Errorf("Hop of one with %d hops: %v, %t", ttl, p, is)
		}
	}
}

// text is n bytes, of which no two pieces of a body's length are alike.
func text(n int) string {
	b := make([]byte, n)
	for i := range b {
		b[i] = byte(i/64*7 + i*i)
	}
	return string(b)
}

// pieces is s in bodies, by the chapter's words.
func pieces(s string) []string {
	var l []string
	for i := 0; i < len(s) && i < 64*64; i += 64 {
		l = append(l, s[i:min(i+64, len(s))])
	}
	return l
}

func TestCut(t *testing.T) { // P10.5
	for _, c := range []struct {
		s    string
		want []string
	}{
		{"", nil},
		{"a", []string{"a"}},
		{"\x00", []string{"\x00"}},
		{text(63), []string{text(63)}},
		{text(64), []string{text(64)}},
		{text(65), []string{text(64), text(65)[64:]}},
		{text(128), []string{text(64), text(128)[64:]}},
		{text(129), []string{text(64), text(128)[64:], text(129)[128:]}},
	} {
		for _, p := range []api.Parcel{{}, sent(""), sent("ab"), {From: -7, Pair: pairs[4], Src: 99, Dst: math.MinInt, Ttl: math.MaxInt, Body: strings.Repeat("x", 300)}} {
			var want []api.Parcel
			for _, body := range c.want {
				p.Body = body
				want = append(want, p)
			}
			if got := parcel.Cut(p, c.s); !slices.Equal(got, want) {
				t.Errorf("Cut(%v, %q): %v, want %v", p, c.s, got, want)
			}
		}
	}
}

func TestCutOfEachLength(t *testing.T) { // P10.5, P10.9
	long := text(64*64 + 200)
	for n := range len(long) + 1 {
		want := pieces(long[:n])
		l := parcel.Cut(sent("ab"), long[:n])
		if len(l) != len(want) {
			t.Fatalf("Cut of %d bytes: %d, want %d", n, len(l), len(want))
		}
		for i, p := range l {
			if p != sent(want[i]) {
				t.Fatalf("Cut of %d bytes: %v at %d, want %v", n, p, i, sent(want[i]))
			}
			if s, err := parcel.Bytes(p); err != api.OK || s != written(p) {
				t.Fatalf("Bytes(%v): %q, %d", p, s, err)
			}
		}
		if got := parcel.Join(l, 10); got != long[:min(n, 64*64)] {
			t.Fatalf("Join of %d bytes: %q", n, got)
		}
	}
}

func TestCutOfMuch(t *testing.T) { // P10.5
	long := text(1 << 20)
	l := parcel.Cut(sent(""), long)
	if len(l) != 64 || parcel.Join(l, 10) != long[:4096] {
		t.Errorf("Cut of much: %d", len(l))
	}
}

func TestJoin(t *testing.T) { // P10.6
	by := func(src int, body string) api.Parcel { return api.Parcel{Src: src, Body: body} }
	for _, c := range []struct {
		l    []api.Parcel
		src  int
		want string
	}{
		{nil, 0, ""},
		{nil, math.MinInt, ""},
		{[]api.Parcel{{}}, 0, ""},
		{[]api.Parcel{by(2, "ab")}, 2, "ab"},
		{[]api.Parcel{by(2, "ab")}, 3, ""},
		{[]api.Parcel{by(2, "ab")}, 18, ""},
		{[]api.Parcel{by(2, "ab")}, -14, ""},
		{[]api.Parcel{by(2, "ab"), by(3, "x"), by(2, ""), by(2, "\x00c"), by(3, "y")}, 2, "ab\x00c"},
		{[]api.Parcel{by(2, "ab"), by(3, "x"), by(2, ""), by(2, "\x00c"), by(3, "y")}, 3, "xy"},
		// Src counts, and neither From nor Dst nor anything else.
		{[]api.Parcel{{From: 2, Src: 3, Dst: 2, Ttl: 2, Body: "no"}, {From: 9, Src: 2, Dst: 7, Ttl: -4, Pair: pairs[2], Body: "yes"}}, 2, "yes"},
		// They must not be right.
		{[]api.Parcel{by(99, "a"), by(-1, "b"), by(99, strings.Repeat("c", 300))}, 99, "a" + strings.Repeat("c", 300)},
		{[]api.Parcel{by(99, "a"), by(-1, "b"), by(-1, "c")}, -1, "bc"},
		{[]api.Parcel{by(math.MinInt, "a"), by(math.MaxInt, "b")}, math.MinInt, "a"},
	} {
		if got := parcel.Join(c.l, c.src); got != c.want {
			t.Errorf("Join(%v, %d): %q, want %q", c.l, c.src, got, c.want)
		}
	}
}

func TestJoinOfFirst64(t *testing.T) { // P10.6
	for many := range 200 {
		var l []api.Parcel
		want := map[int]string{}
		for i := range many {
			p := api.Parcel{Src: i % 3, Body: string([]byte{byte(i), byte(many)})}
			l = append(l, p)
			// What others began counts among the first too.
			if i < 64 {
				want[p.Src] += p.Body
			}
		}
		for src := range 4 {
			if got := parcel.Join(l, src); got != want[src] {
				t.Fatalf("Join of %d by %d: %q, want %q", many, src, got, want[src])
			}
		}
	}
	late := slices.Concat(make([]api.Parcel, 64), []api.Parcel{{Src: 2, Body: "late"}})
	if got := parcel.Join(late, 2); got != "" {
		t.Errorf("Join of one behind 64 others: %q", got)
	}
	if got := parcel.Join(late[1:], 2); got != "late" {
		t.Errorf("Join of one behind 63 others: %q", got)
	}
}

func TestCutIsJoined(t *testing.T) { // P10.9
	r := rand.New(rand.NewSource(10))
	for range 2000 {
		s := text(r.Intn(64*64 + 1))
		src := numbers[r.Intn(len(numbers))]
		p := api.Parcel{From: 3, Src: src, Ttl: r.Intn(65), Body: bodies[r.Intn(len(bodies))]}
		l := parcel.Cut(p, s)
		if got := parcel.Join(l, src); got != s {
			t.Fatalf("Join(Cut(%v, %q)): %q", p, s, got)
		}
		if got := parcel.Join(l, src^1); got != "" {
			t.Fatalf("Join(Cut(%v, %q)) of another one: %q", p, s, got)
		}
	}
}

func TestArgumentsStay(t *testing.T) { // R3
	for many := range 70 {
		held := parcel.Cut(sent(""), text(64*64))
		held = append(held, held[:10]...)
		want := slices.Clone(held)
		parcel.Join(held[:many], 10)
		if !slices.Equal(held, want) {
			t.Errorf("Join of %d changed what it was given", many)
		}
	}
}

func TestCutAnswersNewMemory(t *testing.T) { // P10.5, R3
	for _, n := range []int{1, 64, 65, 200, 64 * 64, 5000} {
		first, second := parcel.Cut(sent(""), text(n)), parcel.Cut(sent(""), text(n))
		want := slices.Clone(second)
		_ = append(first, api.Parcel{})
		clear(first)
		if !slices.Equal(second, want) {
			t.Errorf("Cut of %d bytes shares memory with another one", n)
		}
	}
}

func TestWrittenIsRead(t *testing.T) { // P10.7
	for _, p := range all() {
		if !right(p) {
			continue
		}
		s, err := parcel.Bytes(p)
		if len(s) != 20+len(p.Body) || err != api.OK {
			t.Fatalf("Bytes(%v): %q, %d", p, s, err)
		}
		if got, err := parcel.Read(s); got != p || err != api.OK {
			t.Fatalf("Read(Bytes(%v)): %v, %d", p, got, err)
		}
	}
	for ends := range 256 {
		for ttl := 1; ttl <= 64; ttl++ {
			p := api.Parcel{From: ttl % 16, Pair: pairs[ends%len(pairs)], Src: ends / 16, Dst: ends % 16, Ttl: ttl, Body: text(ends % 65)}
			s, err := parcel.Bytes(p)
			if s != written(p) || err != api.OK {
				t.Fatalf("Bytes(%v): %q, %d", p, s, err)
			}
			if got, err := parcel.Read(s); got != p || err != api.OK {
				t.Fatalf("Read(Bytes(%v)): %v, %d", p, got, err)
			}
		}
	}
}

// readIsWritten looks whether s is written so again, where it is read, and is told to be wrong by the chapter's words, where it is not.
func readIsWritten(t *testing.T, s string) {
	t.Helper()
	p, err := parcel.Read(s)
	if want := fault(s); err != want {
		t.Fatalf("Read(%q): %v, %d, want %d", s, p, err, want)
	}
	if err != api.OK {
		if p != (api.Parcel{}) {
			t.Fatalf("Read(%q): %v, %d", s, p, err)
		}
		return
	}
	if again, err := parcel.Bytes(p); again != s || err != api.OK || !parcel.Right(p) || written(p) != s {
		t.Fatalf("Bytes(Read(%q)): %q, %d", s, again, err)
	}
}

func TestReadIsWritten(t *testing.T) { // P10.7
	r := rand.New(rand.NewSource(107))
	for range 50000 {
		p := api.Parcel{From: r.Intn(17), Pair: pairs[r.Intn(len(pairs))], Src: r.Intn(16), Dst: r.Intn(16), Ttl: r.Intn(68), Body: text(r.Intn(68))}
		b := []byte(written(p))
		for range r.Intn(3) {
			b[r.Intn(len(b))] = byte(r.Intn(256))
		}
		if r.Intn(4) == 0 {
			b = b[:r.Intn(len(b))]
		}
		for range r.Intn(8) / 4 {
			b = append(b, byte(r.Intn(256)))
		}
		readIsWritten(t, string(b))
	}
}

func FuzzParcel(f *testing.F) { // P10.1, P10.2, P10.3, P10.7, P10.9
	for _, s := range []string{"", front, front + "\x00", front + "\x02ab", front + "\x02abc", front + "\x05ab", "\x10" + front[1:] + "\x00", front[:18] + "\x41\x00"} {
		f.Add(s, 3, 10, 5, 7)
	}
	f.Add(text(64), 15, 15, 15, 64)
	f.Add(text(65), 16, 16, 16, 65)
	f.Add(text(5000), -1, -1, -1, 0)
	f.Fuzz(func(t *testing.T, s string, from, src, dst, ttl int) {
		readIsWritten(t, s)
		p := api.Parcel{From: from, Src: src, Dst: dst, Ttl: ttl, Body: s}
		if parcel.Right(p) != right(p) {
			t.Fatalf("Right(%v): %t", p, parcel.Right(p))
		}
		text, err := parcel.Bytes(p)
		if (err == api.OK) != right(p) || err == api.OK && text != written(p) {
			t.Fatalf("Bytes(%v): %q, %d", p, text, err)
		}
		if err == api.OK {
			readIsWritten(t, text)
		}
		if got := parcel.Join(parcel.Cut(p, s), src); got != s[:min(len(s), 64*64)] {
			t.Fatalf("Join(Cut(%v)): %q", p, got)
		}
	})
}
