package costs_test

import (
	"fmt"
	"math"
	"math/rand"
	"slices"
	"strings"
	"testing"

	"fingerpost/api"
	"fingerpost/costs"
)

const far = math.MaxUint32

// noNodes are numbers that no node has.
var noNodes = []int{-1, -16, 16, 17, 31, 32, 63, 64, 256, 1 << 32, 1<<32 + 1, math.MinInt, math.MinInt + 3, math.MaxInt}

// rightCosts and wrongCosts are costs that may be, and such as may not, with the edges among them.
var rightCosts = []uint32{1, 2, 9, 10, 99, 100, 255, 256, 65535, 65536}
var wrongCosts = []uint32{0, 65537, 65536 + 256, 1 << 17, 1<<31 + 1, far - 1, far}

// of is links that are up to those nodes, at those costs: none is looked at.
func of(cost map[int]uint32) api.Costs {
	var c api.Costs
	for n, k := range cost {
		c.Up |= 1 << n
		c.Cost[n] = k
	}
	return c
}

// all is links to all nodes, at one cost.
func all(cost uint32) api.Costs {
	c := api.Costs{Up: 0xffff}
	for n := range c.Cost {
		c.Cost[n] = cost
	}
	return c
}

// sounds are sound links: none, some, and all of them.
func sounds() []api.Costs {
	l := []api.Costs{
		{},
		of(map[int]uint32{0: 1}),
		of(map[int]uint32{15: 65536}),
		of(map[int]uint32{1: 7, 3: 2}),
		of(map[int]uint32{0: 5, 1: 3, 7: 3, 15: 9}),
		of(map[int]uint32{2: 65536, 9: 65535, 14: 10}),
		all(1),
		all(65536),
	}
	r := rand.New(rand.NewSource(14))
	for range 200 {
		l = append(l, sound(r))
	}
	return l
}

// sound is any sound links, made without the package.
func sound(r *rand.Rand) api.Costs {
	var c api.Costs
	for n := range 16 {
		if r.Intn(2) == 0 {
			c.Up |= 1 << n
			c.Cost[n] = 1 + uint32(r.Intn(65536))>>r.Intn(17)
		}
	}
	return c
}

// unsounds are links that no calls make: each is unsound by one thing alone.
func unsounds() []api.Costs {
	l := []api.Costs{
		{Up: 1},
		{Up: 1 << 15},
		{Up: 0xffff},
		{Up: 1 << 16},
		{Up: 1 << 62},
		{Up: -1 << 16},
		{Up: math.MinInt},
		{Up: -1, Cost: all(7).Cost},
		{Up: math.MaxInt, Cost: all(65536).Cost},
		{Up: 1<<16 | 1, Cost: [16]uint32{1}},
		{Cost: [16]uint32{1}},
		{Cost: [16]uint32{15: 65536}},
		{Up: 2, Cost: [16]uint32{1, 1}},
		{Up: 1, Cost: [16]uint32{1, 1}},
	}
	for _, k := range wrongCosts {
		l = append(l, of(map[int]uint32{0: k}), of(map[int]uint32{15: k}), of(map[int]uint32{3: 4, 5: k, 7: 8}))
	}
	r := rand.New(rand.NewSource(41))
	for range 200 {
		if c := wild(r); !isSound(c) {
			l = append(l, c)
		}
	}
	return l
}

// wild is links of any bits.
func wild(r *rand.Rand) api.Costs {
	c := api.Costs{Up: int(r.Uint64())}
	if r.Intn(2) == 0 {
		c.Up &= 0xffff
	}
	for n := range c.Cost {
		c.Cost[n] = r.Uint32() >> r.Intn(33)
	}
	return c
}

// anyCosts are sound links, and others.
func anyCosts() []api.Costs {
	return append(sounds(), unsounds()...)
}

// isUp tells by its bit whether the link to n is up.
func isUp(c api.Costs, n int) bool {
	return 0 <= n && n <= 15 && c.Up&(1<<n) != 0
}

// isSound tells by the chapter's words whether c is sound.
func isSound(c api.Costs) bool {
	for n, k := range c.Cost {
		if isUp(c, n) && (k < 1 || k > 65536) || !isUp(c, n) && k != 0 {
			return false
		}
	}
	return c.Up >= 0 && c.Up <= 0xffff
}

// costOf is Of by the chapter's words.
func costOf(c api.Costs, n int) uint32 {
	if isUp(c, n) {
		return c.Cost[n]
	}
	return 4294967295
}

// textOf is Text by the chapter's words.
func textOf(c api.Costs) string {
	s := ""
	for n := range 16 {
		if isUp(c, n) {
			s += fmt.Sprintf("%c%d ", 'a'+n, c.Cost[n])
		}
	}
	return s
}

func TestSet(t *testing.T) { // P14.1
	for _, c := range []struct {
		c    api.Costs
		n    int
		cost uint32
		want api.Costs
	}{
		{api.Costs{}, 0, 1, api.Costs{Up: 1, Cost: [16]uint32{1}}},
		{api.Costs{}, 15, 65536, api.Costs{Up: 1 << 15, Cost: [16]uint32{15: 65536}}},
		{of(map[int]uint32{1: 7}), 3, 2, api.Costs{Up: 10, Cost: [16]uint32{1: 7, 3: 2}}},
		// Set anew it costs what it was set to last: more, less, and as much.
		{of(map[int]uint32{1: 7, 3: 2}), 1, 9, of(map[int]uint32{1: 9, 3: 2})},
		{of(map[int]uint32{1: 7, 3: 2}), 1, 1, of(map[int]uint32{1: 1, 3: 2})},
		{of(map[int]uint32{1: 7, 3: 2}), 3, 2, of(map[int]uint32{1: 7, 3: 2})},
		// Nothing else is looked at, or changed.
		{api.Costs{Up: -1 << 16, Cost: [16]uint32{far, 0, 70000}}, 1, 5, api.Costs{Up: -1<<16 | 2, Cost: [16]uint32{far, 5, 70000}}},
		{api.Costs{Up: 1, Cost: [16]uint32{far}}, 0, 5, api.Costs{Up: 1, Cost: [16]uint32{5}}},
		{api.Costs{Cost: [16]uint32{far}}, 0, 5, api.Costs{Up: 1, Cost: [16]uint32{5}}},
	} {
		if got, err := costs.Set(c.c, c.n, c.cost); got != c.want || err != api.OK {
			t.Errorf("Set(%v, %d, %d): %v, %d, want %v", c.c, c.n, c.cost, got, err, c.want)
		}
	}
}

func TestSetOfAny(t *testing.T) { // P14.1
	for _, c := range anyCosts() {
		for n := range 16 {
			for _, cost := range rightCosts {
				want := c
				want.Up |= 1 << n
				want.Cost[n] = cost
				if got, err := costs.Set(c, n, cost); got != want || err != api.OK {
					t.Fatalf("Set(%v, %d, %d): %v, %d, want %v", c, n, cost, got, err, want)
				}
			}
		}
	}
}

func TestSetOfNone(t *testing.T) { // P14.1
	for _, c := range anyCosts() {
		for _, n := range noNodes {
			for _, cost := range append(rightCosts, wrongCosts...) {
				if got, err := costs.Set(c, n, cost); got != c || err != api.ErrArg {
					t.Fatalf("Set(%v, %d, %d): %v, %d", c, n, cost, got, err)
				}
			}
		}
		for n := range 16 {
			for _, cost := range wrongCosts {
				if got, err := costs.Set(c, n, cost); got != c || err != api.ErrArg {
					t.Fatalf("Set(%v, %d, %d): %v, %d", c, n, cost, got, err)
				}
			}
		}
	}
}

func TestCut(t *testing.T) { // P14.2
	c := of(map[int]uint32{0: 4, 1: 7, 15: 65536})
	for _, k := range []struct {
		n    int
		want api.Costs
	}{
		{0, of(map[int]uint32{1: 7, 15: 65536})},
		{1, of(map[int]uint32{0: 4, 15: 65536})},
		{15, of(map[int]uint32{0: 4, 1: 7})},
		{2, c}, {14, c},
		{-1, c}, {16, c}, {1 << 32, c}, {math.MinInt, c}, {math.MaxInt, c},
	} {
		if got := costs.Cut(c, k.n); got != k.want {
			t.Errorf("Cut(%v, %d): %v, want %v", c, k.n, got, k.want)
		}
	}
	// What costs something and is not up costs nothing then.
	if got := costs.Cut(api.Costs{Cost: [16]uint32{9, 9}}, 1); got != (api.Costs{Cost: [16]uint32{9}}) {
		t.Errorf("Cut of a link that is not up: %v", got)
	}
}

func TestCutOfAny(t *testing.T) { // P14.2
	for _, c := range anyCosts() {
		for n := range 16 {
			want := c
			want.Up &^= 1 << n
			want.Cost[n] = 0
			if got := costs.Cut(c, n); got != want {
				t.Fatalf("Cut(%v, %d): %v, want %v", c, n, got, want)
			}
		}
		for _, n := range noNodes {
			if got := costs.Cut(c, n); got != c {
				t.Fatalf("Cut(%v, %d): %v", c, n, got)
			}
		}
	}
}

func TestOf(t *testing.T) { // P14.3
	c := api.Costs{Up: 1 | 1<<1 | 1<<2 | 1<<15, Cost: [16]uint32{0: 1, 2: far, 3: 9, 15: 65536}}
	for n, want := range map[int]uint32{
		0: 1, 15: 65536,
		// It is up, whatever it costs.
		1: 0, 2: far,
		// It is not up, whatever it costs.
		3: far, 4: far, 14: far,
		-1: far, 16: far, 17: far, 1 << 32: far, math.MinInt: far, math.MaxInt: far,
	} {
		if got := costs.Of(c, n); got != want {
			t.Errorf("Of(%v, %d): %d, want %d", c, n, got, want)
		}
	}
}

func TestNeverSetIsFar(t *testing.T) { // P14.3, the chapter's example
	for n := range 16 {
		if got := costs.Of(api.Costs{}, n); got != 4294967295 {
			t.Errorf("Of no links, %d: %d", n, got)
		}
	}
}

func TestOfAny(t *testing.T) { // P14.3
	for _, c := range anyCosts() {
		for n := -20; n < 80; n++ {
			if got, want := costs.Of(c, n), costOf(c, n); got != want {
				t.Fatalf("Of(%v, %d): %d, want %d", c, n, got, want)
			}
		}
		for _, n := range noNodes {
			if got := costs.Of(c, n); got != far {
				t.Fatalf("Of(%v, %d): %d", c, n, got)
			}
		}
	}
}

func TestUp(t *testing.T) { // P14.4
	for _, c := range []struct {
		c    api.Costs
		want []int
	}{
		{api.Costs{}, nil},
		{of(map[int]uint32{0: 1}), []int{0}},
		{of(map[int]uint32{15: 1}), []int{15}},
		{of(map[int]uint32{9: 3, 0: 5, 15: 1, 2: 8}), []int{0, 2, 9, 15}},
		{all(4), []int{0, 1, 2, 3, 4, 5, 6, 7, 8, 9, 10, 11, 12, 13, 14, 15}},
		// The bits count, whatever stands as cost.
		{api.Costs{Up: 5}, []int{0, 2}},
		{api.Costs{Cost: all(4).Cost}, nil},
		{api.Costs{Up: 1 << 16}, nil},
		{api.Costs{Up: math.MinInt}, nil},
		{api.Costs{Up: 1<<16 | 2}, []int{1}},
		{api.Costs{Up: -2}, []int{1, 2, 3, 4, 5, 6, 7, 8, 9, 10, 11, 12, 13, 14, 15}},
	} {
		if got := costs.Up(c.c); !slices.Equal(got, c.want) {
			t.Errorf("Up(%v): %v, want %v", c.c, got, c.want)
		}
	}
	for _, c := range anyCosts() {
		var want []int
		for n := range 16 {
			if isUp(c, n) {
				want = append(want, n)
			}
		}
		if got := costs.Up(c); !slices.Equal(got, want) {
			t.Fatalf("Up(%v): %v, want %v", c, got, want)
		}
	}
}

func TestUpIsNewMemory(t *testing.T) { // P14.4, R3
	c := of(map[int]uint32{1: 7, 3: 2})
	l := costs.Up(c)
	clear(costs.Up(c))
	if !slices.Equal(l, []int{1, 3}) {
		t.Errorf("the list of one call is changed through that of another: %v", l)
	}
}

func TestSound(t *testing.T) { // P14.5
	for _, c := range sounds() {
		if !costs.Sound(c) {
			t.Errorf("Sound(%v): false", c)
		}
	}
	for _, c := range unsounds() {
		if costs.Sound(c) {
			t.Errorf("Sound(%v): true", c)
		}
	}
}

func TestSoundOfEach(t *testing.T) { // P14.5
	for n := range 16 {
		for _, k := range append(rightCosts, wrongCosts...) {
			if got := costs.Sound(of(map[int]uint32{n: k})); got != slices.Contains(rightCosts, k) {
				t.Errorf("Sound of a link to %d that costs %d: %t", n, k, got)
			}
			down := all(3)
			down.Up &^= 1 << n
			down.Cost[n] = k
			if got := costs.Sound(down); got != (k == 0) {
				t.Errorf("Sound of all links but that to %d, which costs %d: %t", n, k, got)
			}
		}
	}
	for bit := 16; bit < 64; bit++ {
		if c := all(3); costs.Sound(api.Costs{Up: c.Up | 1<<bit, Cost: c.Cost}) {
			t.Errorf("Sound of links with the bit %d: true", bit)
		}
	}
}

func TestSoundOfAny(t *testing.T) { // P14.5
	r := rand.New(rand.NewSource(5))
	for range 20000 {
		c := sound(r)
		switch n := r.Intn(16); r.Intn(6) {
		case 0:
			c.Up ^= 1 << n
		case 1:
			c.Up ^= 1 << (n + 16)
		case 2:
			c.Cost[n] = 0
		case 3:
			c.Cost[n] ^= 1 << r.Intn(32)
		case 4:
			c = wild(r)
		}
		if got := costs.Sound(c); got != isSound(c) {
			t.Fatalf("Sound(%v): %t", c, got)
		}
	}
}

func TestText(t *testing.T) { // P14.6
	for _, c := range []struct {
		c    api.Costs
		want string
	}{
		{api.Costs{}, ""},
		{of(map[int]uint32{0: 1}), "a1 "},
		{of(map[int]uint32{15: 65536}), "p65536 "},
		{of(map[int]uint32{3: 2, 1: 7}), "b7 d2 "},
		{of(map[int]uint32{0: 10, 7: 100, 14: 9}), "a10 h100 o9 "},
		{all(65536), "a65536 b65536 c65536 d65536 e65536 f65536 g65536 h65536 i65536 j65536 k65536 l65536 m65536 n65536 o65536 p65536 "},
		// Unsound ones are written as they stand.
		{api.Costs{Up: 2}, "b0 "},
		{api.Costs{Up: 1<<16 | 2, Cost: [16]uint32{5, far}}, "b4294967295 "},
		{api.Costs{Cost: [16]uint32{5, 6}}, ""},
		{api.Costs{Up: math.MinInt}, ""},
	} {
		if got := costs.Text(c.c); got != c.want {
			t.Errorf("Text(%v): %q, want %q", c.c, got, c.want)
		}
	}
	for _, c := range anyCosts() {
		if got, want := costs.Text(c), textOf(c); got != want {
			t.Fatalf("Text(%v): %q, want %q", c, got, want)
		}
	}
}

func TestParse(t *testing.T) { // P14.7
	for s, want := range map[string]api.Costs{
		"":                   {},
		"a1 ":                of(map[int]uint32{0: 1}),
		"p65536 ":            of(map[int]uint32{15: 65536}),
		"b7 d2 ":             of(map[int]uint32{1: 7, 3: 2}),
		"a10 h100 o9 ":       of(map[int]uint32{0: 10, 7: 100, 14: 9}),
		textOf(all(1)):       all(1),
		textOf(all(999)):     all(999),
		textOf(all(1 << 16)): all(1 << 16),
	} {
		if got, err := costs.Parse(s); got != want || err != api.OK {
			t.Errorf("Parse(%q): %v, %d, want %v", s, got, err, want)
		}
	}
}

// noTexts are texts of up to 300 bytes that no sound links have.
var noTexts = []string{
	// Blanks that are missing, too many, or something else.
	" ", "  ", "b7", " b7 ", "b7  ", "b7 d2", "b7  d2 ", " b7 d2 ", "b7d2 ", "b 7 ", "b7 d 2 ", "b7\t", "b7\n", "b7 d2\n", "b7 \n", "\nb7 ", "b7\td2 ", "b7\u00a0", "b7\u2003d2 ", "b7\v", "b7\x85", "b7,d2 ",
	// Letters that are none, no letters, or more than one.
	"q7 ", "`7 ", "A7 ", "P7 ", "z7 ", "77 ", "7 ", ".7 ", "-7 ", "ab7 ", "bb7 ", "\x007 ", "\xff7 ", "\xe17 ", "\u01617 ", "\u00617\u0301 ", "\u03b17 ", "\u20047 ",
	// Letters that don't rise.
	"d2 b7 ", "b7 b7 ", "b7 b8 ", "b7 d2 b7 ", "b7 d2 c1 ", "p1 a1 ",
	// Numbers that are no costs, or not written so.
	"b ", "b0 ", "b00 ", "b07 ", "b007 ", "b65537 ", "b99999 ", "b100000 ", "b4294967295 ", "b4294967296 ", "b4294967303 ", "b18446744073709551616 ", "b18446744073709551623 ", "b99999999999999999999999999 ", "b+7 ", "b-7 ", "b-0 ", "b7. ", "b7.0 ", "b7e0 ", "b0x7 ", "b0b1 ", "b0o7 ", "b7_0 ", "b1_000 ", "b7a ", "bx ", "b\u0667 ", "b\uff17 ", "b7\x00 ", "b\x007 ", "b7\xff ",
	// One link that is right does not make another one so.
	"b7 q7 ", "b7 c0 ", "b7 c ", "b7 .", "b7 . ", ". ", ".", "a", "b7 65 ",
}

func TestParseOfNone(t *testing.T) { // P14.7
	for _, s := range noTexts {
		if got, err := costs.Parse(s); got != (api.Costs{}) || err != api.ErrForm {
			t.Errorf("Parse(%q): %v, %d", s, got, err)
		}
	}
}

func TestParseOfLong(t *testing.T) { // P14.7
	for _, c := range []struct {
		s    string
		want api.Errno
	}{
		{strings.Repeat("b", 300), api.ErrForm},
		{strings.Repeat(" ", 300), api.ErrForm},
		{"b" + strings.Repeat("0", 297) + "7 ", api.ErrForm},
		{"b7 " + strings.Repeat(" ", 297), api.ErrForm},
		{strings.Repeat("b7 ", 100), api.ErrForm},
		{textOf(all(1<<16)) + strings.Repeat("p65536 ", 26), api.ErrForm},
		{strings.Repeat("b", 301), api.ErrLong},
		{strings.Repeat(" ", 301), api.ErrLong},
		{strings.Repeat("\x00", 301), api.ErrLong},
		{"b" + strings.Repeat("0", 298) + "7 ", api.ErrLong},
		{"b7 " + strings.Repeat(" ", 298), api.ErrLong},
		{strings.Repeat("b7 ", 101), api.ErrLong},
		// Bytes count, not runes.
		{strings.Repeat("\u00e4", 150), api.ErrForm},
		{strings.Repeat("\u00e4", 151), api.ErrLong},
		{strings.Repeat("b7 ", 1<<18), api.ErrLong},
	} {
		if got, err := costs.Parse(c.s); got != (api.Costs{}) || err != c.want {
			t.Errorf("Parse of %d bytes, %.20q: %v, %d, want %d", len(c.s), c.s, got, err, c.want)
		}
	}
}

func TestLeast(t *testing.T) { // P14.8
	for _, c := range []struct {
		c    api.Costs
		want int
	}{
		{api.Costs{}, -1},
		{of(map[int]uint32{0: 65536}), 0},
		{of(map[int]uint32{15: 65536}), 15},
		{of(map[int]uint32{1: 7, 3: 2}), 3},
		{of(map[int]uint32{1: 2, 3: 7}), 1},
		{of(map[int]uint32{0: 9, 4: 3, 8: 5, 15: 4}), 4},
		// Of several that cost as much the first one counts.
		{of(map[int]uint32{2: 4, 5: 4}), 2},
		{of(map[int]uint32{0: 9, 4: 3, 8: 3, 15: 3}), 4},
		{all(1), 0},
		// What is not up does not count, whatever it costs.
		{api.Costs{Up: 2, Cost: [16]uint32{1, 7, 1}}, 1},
		{api.Costs{Up: 1 << 16, Cost: [16]uint32{1}}, -1},
		{api.Costs{Up: math.MinInt}, -1},
		// What is up counts, whatever it costs.
		{of(map[int]uint32{3: 1, 5: 0}), 5},
		{of(map[int]uint32{7: far}), 7},
		{of(map[int]uint32{7: far, 9: far}), 7},
		{of(map[int]uint32{7: far, 9: far - 1}), 9},
	} {
		if got := costs.Least(c.c); got != c.want {
			t.Errorf("Least(%v): %d, want %d", c.c, got, c.want)
		}
	}
}

func TestLeastOfAny(t *testing.T) { // P14.8
	for _, c := range anyCosts() {
		var up []int
		for n := range 16 {
			if isUp(c, n) {
				up = append(up, n)
			}
		}
		slices.SortStableFunc(up, func(a, b int) int { return int(c.Cost[a]) - int(c.Cost[b]) })
		if got, want := costs.Least(c), append(up, -1)[0]; got != want {
			t.Fatalf("Least(%v): %d, want %d", c, got, want)
		}
	}
}

func TestTotal(t *testing.T) { // P14.9
	for _, c := range []struct {
		c    api.Costs
		want uint64
	}{
		{api.Costs{}, 0},
		{of(map[int]uint32{0: 1}), 1},
		{of(map[int]uint32{1: 7, 3: 2}), 9},
		{all(1), 16},
		{all(65536), 1 << 20},
		// What is not up costs nothing.
		{api.Costs{Up: 2, Cost: [16]uint32{1, 7, 1}}, 7},
		{api.Costs{Cost: all(9).Cost}, 0},
		{api.Costs{Up: 1 << 16, Cost: all(9).Cost}, 0},
		// More than 32 bits hold.
		{all(far), 16 * far},
		{of(map[int]uint32{0: far, 9: 1}), 1 << 32},
	} {
		if got := costs.Total(c.c); got != c.want {
			t.Errorf("Total(%v): %d, want %d", c.c, got, c.want)
		}
	}
	for _, c := range anyCosts() {
		want := uint64(0)
		for n, k := range c.Cost {
			if isUp(c, n) {
				want += uint64(k)
			}
		}
		if got := costs.Total(c); got != want {
			t.Fatalf("Total(%v): %d, want %d", c, got, want)
		}
	}
}

func TestDiff(t *testing.T) { // P14.10
	c := of(map[int]uint32{1: 7, 3: 2})
	for _, k := range []struct {
		a, b api.Costs
		want int
	}{
		{api.Costs{}, api.Costs{}, 0},
		{c, c, 0},
		{c, api.Costs{}, 10},
		{c, of(map[int]uint32{1: 7}), 8},
		{c, of(map[int]uint32{1: 8, 3: 2}), 2},
		{c, of(map[int]uint32{1: 7, 3: 2, 15: 1}), 1 << 15},
		{c, of(map[int]uint32{0: 7, 3: 1}), 1 | 2 | 8},
		{all(1), all(2), 0xffff},
		{all(1), api.Costs{}, 0xffff},
		// Of counts: what is not up costs Far, whatever stands there.
		{api.Costs{Cost: [16]uint32{5}}, api.Costs{}, 0},
		{api.Costs{Cost: [16]uint32{5}}, api.Costs{Up: 1, Cost: [16]uint32{5}}, 1},
		{of(map[int]uint32{4: far}), api.Costs{}, 0},
		{of(map[int]uint32{4: 0}), api.Costs{}, 16},
		{api.Costs{Up: -1 << 16}, api.Costs{}, 0},
		{api.Costs{Up: 1<<16 | 1, Cost: [16]uint32{5}}, api.Costs{Up: 1, Cost: [16]uint32{5, 6}}, 0},
	} {
		if costs.Diff(k.a, k.b) != k.want || costs.Diff(k.b, k.a) != k.want {
			t.Errorf("Diff(%v, %v): %d, %d, want %d", k.a, k.b, costs.Diff(k.a, k.b), costs.Diff(k.b, k.a), k.want)
		}
	}
}

func TestDiffOfAny(t *testing.T) { // P14.10
	l := anyCosts()
	for i, a := range l {
		for _, step := range []int{0, 1, 2, 3, 10, 100} {
			b := l[(i+step)%len(l)]
			want := 0
			for n := range 16 {
				if costOf(a, n) != costOf(b, n) {
					want += 1 << n
				}
			}
			if got := costs.Diff(a, b); got != want {
				t.Fatalf("Diff(%v, %v): %d, want %d", a, b, got, want)
			}
		}
	}
}

func TestStaysSound(t *testing.T) { // P14.11
	r := rand.New(rand.NewSource(11))
	for range 200 {
		var c api.Costs
		last := map[int]uint32{}
		for range 100 {
			n, cost := r.Intn(20)-2, uint32(r.Intn(1<<18))>>r.Intn(18)
			right := 0 <= n && n <= 15
			if r.Intn(3) == 0 {
				c = costs.Cut(c, n)
				delete(last, n)
			} else if next, err := costs.Set(c, n, cost); (err == api.OK) != (right && cost >= 1 && cost <= 65536) {
				t.Fatalf("Set(%v, %d, %d): %d", c, n, cost, err)
			} else if c = next; err == api.OK {
				last[n] = cost
			}
			if !costs.Sound(c) || c != of(last) {
				t.Fatalf("%v, want %v", c, of(last))
			}
			costLast(t, c, last)
		}
	}
}

// costLast looks whether each link of c costs what it was set to last, and all others Far.
func costLast(t *testing.T, c api.Costs, last map[int]uint32) {
	t.Helper()
	for n := range 16 {
		want, is := last[n]
		if !is {
			want = far
		}
		if got := costs.Of(c, n); got != want {
			t.Fatalf("Of(%v, %d): %d, want %d", c, n, got, want)
		}
	}
}

func TestWrittenIsRead(t *testing.T) { // P14.12
	for _, c := range sounds() {
		if got, err := costs.Parse(costs.Text(c)); got != c || err != api.OK {
			t.Errorf("Parse(%q): %v, %d, want %v", costs.Text(c), got, err, c)
		}
	}
	for cost := uint32(1); cost <= 65536; cost++ {
		c := of(map[int]uint32{int(cost % 16): cost, int(cost/16) % 16: 65537 - cost})
		if got, err := costs.Parse(costs.Text(c)); got != c || err != api.OK {
			t.Fatalf("Parse(%q): %v, %d, want %v", costs.Text(c), got, err, c)
		}
	}
}

// isRead looks whether Parse answers what is written so, or, if nothing sound is, that s is of a wrong form.
func isRead(t *testing.T, s string) {
	t.Helper()
	got, err := costs.Parse(s)
	switch {
	case err == api.OK && (!isSound(got) || textOf(got) != s):
		t.Fatalf("Parse(%q): %v, whose text is %q", s, got, textOf(got))
	case err != api.OK && got != (api.Costs{}):
		t.Fatalf("Parse(%q): %v, %d", s, got, err)
	case (err == api.ErrLong) != (len(s) > 300) || err != api.OK && err != api.ErrLong && err != api.ErrForm:
		t.Fatalf("Parse of %d bytes, %.40q: %d", len(s), s, err)
	}
}

func TestReadIsWritten(t *testing.T) { // P14.7, P14.12
	pieces := []string{"a", "b", "p", "q", "0", "1", "7", "65536", "65537", " ", "\n", "+", "_", ".", "\xff"}
	level := []string{""}
	for range 4 {
		var next []string
		for _, s := range level {
			for _, p := range pieces {
				isRead(t, s+p)
				isRead(t, s+p+" ")
				next = append(next, s+p)
			}
		}
		level = next
	}
}

func TestOneByteOff(t *testing.T) { // P14.7, P14.12
	for _, c := range sounds()[:40] {
		s := costs.Text(c)
		for i := range len(s) {
			isRead(t, s[:i])
			isRead(t, s[:i]+s[i+1:])
			for _, b := range []string{" ", "0", "1", "9", "a", "p", "q", "+", "\x00", "\x80"} {
				isRead(t, s[:i]+b+s[i:])
				isRead(t, s[:i]+b+s[i+1:])
			}
		}
	}
}

// FuzzCosts holds what the calls say of any links and texts against the chapter's words (R1, P14.1 to P14.12).
func FuzzCosts(f *testing.F) {
	for _, s := range append(noTexts, "", "b7 d2 ", "p65536 ") {
		f.Add(s, len(s), len(s), uint32(len(s)), int64(len(s)))
	}
	f.Add("b7 d2 ", math.MinInt, math.MaxInt, uint32(far), int64(0))
	f.Fuzz(func(t *testing.T, s string, up, n int, cost uint32, seed int64) {
		isRead(t, s)
		c := wild(rand.New(rand.NewSource(seed)))
		c.Up = up
		if costs.Sound(c) != isSound(c) || costs.Of(c, n) != costOf(c, n) || costs.Text(c) != textOf(c) {
			t.Fatalf("Sound(%v): %t; Of %d: %d; Text: %q", c, costs.Sound(c), n, costs.Of(c, n), costs.Text(c))
		}
		for _, cost := range []uint32{cost, cost&0xffff + 1} {
			set, err := costs.Set(c, n, cost)
			if err == api.OK && (costs.Of(set, n) != cost || costs.Cut(set, n) != costs.Cut(c, n)) || err != api.OK && (err != api.ErrArg || set != c) {
				t.Fatalf("Set(%v, %d, %d): %v, %d", c, n, cost, set, err)
			}
		}
		if cut := costs.Cut(c, n); costs.Of(cut, n) != far || costs.Diff(c, cut)&^(1<<(n&15)) != 0 {
			t.Fatalf("Cut(%v, %d): %v", c, n, cut)
		}
		if least := costs.Least(c); (least < 0) != (len(costs.Up(c)) == 0) || least >= 0 && uint64(costs.Of(c, least)) > costs.Total(c) {
			t.Fatalf("Least(%v): %d", c, least)
		}
	})
}
