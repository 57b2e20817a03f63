package nodes_test

import (
	"math"
	"slices"
	"strings"
	"testing"

	"fingerpost/api"
	"fingerpost/nodes"
)

// noNodes are numbers that are no nodes, some of which a shift or a modulo would take for one.
var noNodes = []int{-1, -2, -15, -16, -17, -64, math.MinInt, math.MinInt + 1, 16, 17, 31, 32, 63, 64, 65, 128, 1 << 16, 1 << 32, math.MaxInt - 1, math.MaxInt}

// above are bits that are no node's: alone they are a set of none.
var above = []int{0, 1 << 16, 1 << 31, 1 << 32, 5 << 40, 1 << 62, math.MinInt, -1 << 16}

// members is the nodes in a set, by division: the bits above the lowest 16 never come into it.
func members(set int) []int {
	left := (set%65536 + 65536) % 65536
	var l []int
	for n := range 16 {
		if left%2 == 1 {
			l = append(l, n)
		}
		left /= 2
	}
	return l
}

// everySet runs f for each set there is, with bits above it that change from set to set.
func everySet(f func(set int, in []int)) {
	for low := range 1 << 16 {
		set := low | above[low%len(above)]
		f(set, members(low))
	}
}

// someSets are sets of few nodes, of all but few, and of every other one, with all bits that may be above them.
func someSets() []int {
	var l []int
	for _, low := range []int{0, 1, 2, 3, 4, 5, 12, 0x8000, 0x8001, 0xc000, 0x7fff, 0xfffe, 0xffff, 0x5555, 0xaaaa, 0x0ff0, 0x1234} {
		for _, high := range above {
			l = append(l, low|high)
		}
	}
	return append(l, -1, -2, math.MaxInt, math.MinInt+1)
}

func TestRight(t *testing.T) { // P3.1
	for n := -100; n < 100; n++ {
		if got, want := nodes.Right(n), 0 <= n && n <= 15; got != want {
			t.Errorf("Right(%d): %t", n, got)
		}
	}
	for _, n := range noNodes {
		if nodes.Right(n) {
			t.Errorf("Right(%d): true", n)
		}
	}
}

func TestHas(t *testing.T) { // P3.2
	everySet(func(set int, in []int) {
		for n := range 16 {
			if got, want := nodes.Has(set, n), slices.Contains(in, n); got != want {
				t.Fatalf("Has(%#x, %d): %t", set, n, got)
			}
		}
	})
	for _, set := range someSets() {
		for _, n := range noNodes {
			if nodes.Has(set, n) {
				t.Errorf("Has(%#x, %d): true", set, n)
			}
		}
	}
}

func TestWith(t *testing.T) { // P3.2
	for _, c := range []struct{ set, n, want int }{
		{0, 0, 1},
		{0, 15, 0x8000},
		{5, 1, 7},
		{5, 2, 5},
		{0xffff, 9, 0xffff},
		{-1, 3, -1},
		{1 << 16, 0, 1<<16 | 1},
		{math.MinInt, 0, math.MinInt + 1},
	} {
		if got := nodes.With(c.set, c.n); got != c.want {
			t.Errorf("With(%#x, %d): %#x, want %#x", c.set, c.n, got, c.want)
		}
	}
	everySet(func(set int, in []int) {
		for n := range 16 {
			want := slices.Clone(in)
			if !slices.Contains(in, n) {
				want = append(want, n)
				slices.Sort(want)
			}
			if got := nodes.With(set, n); !slices.Equal(members(got), want) || got>>16 != set>>16 {
				t.Fatalf("With(%#x, %d): %#x", set, n, got)
			}
		}
	})
}

func TestWithout(t *testing.T) { // P3.2
	for _, c := range []struct{ set, n, want int }{
		{0, 0, 0},
		{1, 0, 0},
		{0x8000, 15, 0},
		{7, 1, 5},
		{5, 1, 5},
		{0xffff, 15, 0x7fff},
		{-1, 3, -9},
		{1<<16 | 1, 0, 1 << 16},
	} {
		if got := nodes.Without(c.set, c.n); got != c.want {
			t.Errorf("Without(%#x, %d): %#x, want %#x", c.set, c.n, got, c.want)
		}
	}
	everySet(func(set int, in []int) {
		for n := range 16 {
			want := slices.DeleteFunc(slices.Clone(in), func(m int) bool { return m == n })
			if got := nodes.Without(set, n); !slices.Equal(members(got), want) || got>>16 != set>>16 {
				t.Fatalf("Without(%#x, %d): %#x", set, n, got)
			}
		}
	})
}

func TestNoSuchNode(t *testing.T) { // P3.2
	for _, set := range someSets() {
		for _, n := range noNodes {
			if got := nodes.With(set, n); got != set {
				t.Errorf("With(%#x, %d): %#x", set, n, got)
			}
			if got := nodes.Without(set, n); got != set {
				t.Errorf("Without(%#x, %d): %#x", set, n, got)
			}
		}
	}
}

func TestListAndCount(t *testing.T) { // P3.3
	for _, c := range []struct {
		set  int
		want []int
	}{
		{0, nil},
		{1, []int{0}},
		{5, []int{0, 2}},
		{12, []int{2, 3}},
		{0x8001, []int{0, 15}},
		{1 << 16, nil},
		{-1 << 16, nil},
		{math.MinInt, nil},
		{1<<16 | 2, []int{1}},
		{-1, []int{0, 1, 2, 3, 4, 5, 6, 7, 8, 9, 10, 11, 12, 13, 14, 15}},
		{-2, []int{1, 2, 3, 4, 5, 6, 7, 8, 9, 10, 11, 12, 13, 14, 15}},
	} {
		if got := nodes.List(c.set); !slices.Equal(got, c.want) {
			t.Errorf("List(%#x): %d, want %d", c.set, got, c.want)
		}
		if got := nodes.Count(c.set); got != len(c.want) {
			t.Errorf("Count(%#x): %d, want %d", c.set, got, len(c.want))
		}
	}
	everySet(func(set int, in []int) {
		if got := nodes.List(set); !slices.Equal(got, in) {
			t.Fatalf("List(%#x): %d", set, got)
		}
		if got := nodes.Count(set); got != len(in) {
			t.Fatalf("Count(%#x): %d", set, got)
		}
	})
}

func TestText(t *testing.T) { // P3.4
	for set, want := range map[int]string{
		0:               ".",
		1:               "a",
		2:               "b",
		5:               "ac",
		12:              "cd",
		0x8000:          "p",
		0x8001:          "ap",
		0xffff:          "abcdefghijklmnop",
		-1:              "abcdefghijklmnop",
		-2:              "bcdefghijklmnop",
		1 << 16:         ".",
		1<<16 | 4:       "c",
		math.MinInt:     ".",
		math.MaxInt:     "abcdefghijklmnop",
		math.MinInt | 9: "ad",
	} {
		if got := nodes.Text(set); got != want {
			t.Errorf("Text(%#x): %q, want %q", set, got, want)
		}
	}
	everySet(func(set int, in []int) {
		want := strings.Builder{}
		for _, n := range in {
			want.WriteByte(byte(97 + n))
		}
		if len(in) == 0 {
			want.WriteByte('.')
		}
		if got := nodes.Text(set); got != want.String() {
			t.Fatalf("Text(%#x): %q, want %q", set, got, want.String())
		}
	})
}

func TestParse(t *testing.T) { // P3.5
	for _, c := range []struct {
		s    string
		want int
		err  api.Errno
	}{
		{".", 0, api.OK},
		{"a", 1, api.OK},
		{"p", 0x8000, api.OK},
		{"ac", 5, api.OK},
		{"ap", 0x8001, api.OK},
		{"abcdefghijklmnop", 0xffff, api.OK},
		{"", 0, api.ErrForm},
		{"..", 0, api.ErrForm},
		{".a", 0, api.ErrForm},
		{"a.", 0, api.ErrForm},
		{"aa", 0, api.ErrForm},
		{"ca", 0, api.ErrForm},
		{"aca", 0, api.ErrForm},
		{"acc", 0, api.ErrForm},
		{"pa", 0, api.ErrForm},
		{"q", 0, api.ErrForm},
		{"aq", 0, api.ErrForm},
		{"abcdefghijklmnopq", 0, api.ErrForm},
		{"abcdefghijklmnopp", 0, api.ErrForm},
		{"`", 0, api.ErrForm},
		{"A", 0, api.ErrForm},
		{"P", 0, api.ErrForm},
		{"0", 0, api.ErrForm},
		{" ", 0, api.ErrForm},
		{" a", 0, api.ErrForm},
		{"a ", 0, api.ErrForm},
		{"a b", 0, api.ErrForm},
		{"a\n", 0, api.ErrForm},
		{"a\x00", 0, api.ErrForm},
		{"\x00", 0, api.ErrForm},
		// The lowest byte of each of these runes is a letter's: U+0161, U+0263, U+10061.
		{"\u0161", 0, api.ErrForm},
		{"a\u0263", 0, api.ErrForm},
		{"\U00010061", 0, api.ErrForm},
		{"\u00e4", 0, api.ErrForm},
		{"a\u0301", 0, api.ErrForm},
		{"\xe1", 0, api.ErrForm},
		{"a\xff", 0, api.ErrForm},
		{"a\x80b", 0, api.ErrForm},
		{"\ufffd", 0, api.ErrForm},
		{strings.Repeat("a", 1<<20), 0, api.ErrForm},
		{strings.Repeat(".", 1<<20), 0, api.ErrForm},
	} {
		if got, err := nodes.Parse(c.s); got != c.want || err != c.err {
			t.Errorf("Parse of %d bytes, %.20q: %#x, %d, want %#x, %d", len(c.s), c.s, got, err, c.want, c.err)
		}
	}
}

func TestLowest(t *testing.T) { // P3.6
	for set, want := range map[int]int{
		0: -1, 1: 0, 12: 2, 0x8000: 15, 0xffff: 0, -1: 0, -2: 1, 1 << 16: -1, 1<<16 | 8: 3, math.MinInt: -1,
	} {
		if got := nodes.Lowest(set); got != want {
			t.Errorf("Lowest(%#x): %d, want %d", set, got, want)
		}
	}
	everySet(func(set int, in []int) {
		want := -1
		if len(in) > 0 {
			want = in[0]
		}
		if got := nodes.Lowest(set); got != want {
			t.Fatalf("Lowest(%#x): %d, want %d", set, got, want)
		}
	})
}

func TestHighest(t *testing.T) { // P3.7
	for set, want := range map[int]int{
		0: -1, 1: 0, 12: 3, 0x8000: 15, 0x7fff: 14, 0xffff: 15, -1: 15, 1 << 16: -1, 1<<16 | 8: 3, math.MinInt: -1, math.MinInt | 1: 0,
	} {
		if got := nodes.Highest(set); got != want {
			t.Errorf("Highest(%#x): %d, want %d", set, got, want)
		}
	}
	everySet(func(set int, in []int) {
		want := -1
		if len(in) > 0 {
			want = in[len(in)-1]
		}
		if got := nodes.Highest(set); got != want {
			t.Fatalf("Highest(%#x): %d, want %d", set, got, want)
		}
	})
}

func TestNext(t *testing.T) { // P3.8
	for _, c := range []struct{ set, n, want int }{
		{12, 1, 2},
		{12, 2, 3},
		{12, 3, 2},
		{12, 0, 2},
		{12, 15, 2},
		{8, 3, 3},
		{1, 0, 0},
		{0x8000, 15, 15},
		{0x8000, 14, 15},
		{0x8001, 15, 0},
		{0x8001, 0, 15},
		{0, 1, -1},
		{0, 16, -1},
		{1 << 16, 15, -1},
		{1<<16 | 1, 14, 0},
		{-1, 15, 0},
		{math.MinInt, 0, -1},
		// From here on n is none of 0 to 15: below 0 its modulo is still one of these.
		{12, 16, 2},
		{12, 19, 2},
		{0xc000, -1, 14},
		{0xc001, -1, 0},
		{0xc000, -2, 15},
		{0x8004, -14, 15},
		{0x8001, math.MaxInt, 0},
		{0x8001, math.MinInt, 15},
		{0x8002, math.MinInt + 1, 15},
		{0xffff, math.MaxInt - 1, 15},
	} {
		if got := nodes.Next(c.set, c.n); got != c.want {
			t.Errorf("Next(%#x, %d): %d, want %d", c.set, c.n, got, c.want)
		}
	}
}

func TestNextOfAny(t *testing.T) { // P3.8
	everySet(func(set int, in []int) {
		for n := range 16 {
			want := -1
			if len(in) > 0 {
				want = in[0]
			}
			if at := slices.IndexFunc(in, func(m int) bool { return m > n }); at >= 0 {
				want = in[at]
			}
			if got := nodes.Next(set, n); got != want {
				t.Fatalf("Next(%#x, %d): %d, want %d", set, n, got, want)
			}
		}
	})
	for _, set := range someSets() {
		for n := -70; n < 70; n++ {
			if got, want := nodes.Next(set, n), nodes.Next(set, (n+160)%16); got != want {
				t.Errorf("Next(%#x, %d): %d, want %d", set, n, got, want)
			}
		}
	}
}

// below is all sets that have nothing that set has not, found by trying each number.
func below(set int) []int {
	in := members(set)
	var l []int
	for sub := range 1 << 16 {
		if !slices.ContainsFunc(members(sub), func(n int) bool { return !slices.Contains(in, n) }) {
			l = append(l, sub)
		}
	}
	return l
}

func TestSubsets(t *testing.T) { // P3.9
	for _, c := range []struct {
		set, many int
		want      []int
	}{
		{0, 0, nil},
		{0, 1, []int{0}},
		{0, 65536, []int{0}},
		{5, 0, nil},
		{5, 1, []int{0}},
		{5, 2, []int{0, 1}},
		{5, 3, []int{0, 1, 4}},
		{5, 4, []int{0, 1, 4, 5}},
		{5, 9, []int{0, 1, 4, 5}},
		{0x8000, 65536, []int{0, 0x8000}},
		{0x8001, 65536, []int{0, 1, 0x8000, 0x8001}},
		{1 << 16, 65536, []int{0}},
		{1<<16 | 2, 65536, []int{0, 2}},
		{-1 << 16, 2, []int{0}},
		{math.MinInt, 2, []int{0}},
		{-1, 3, []int{0, 1, 2}},
		{-2, 3, []int{0, 2, 4}},
	} {
		if got := nodes.Subsets(c.set, c.many); !slices.Equal(got, c.want) {
			t.Errorf("Subsets(%#x, %d): %d, want %d", c.set, c.many, got, c.want)
		}
	}
}

func TestSubsetsOfAny(t *testing.T) { // P3.9
	for _, low := range []int{0, 1, 3, 5, 0x8000, 0x8001, 0xa50, 0x5555, 0xaaaa, 0xfffe, 0x7fff, 0xffff} {
		all := below(low)
		for _, many := range []int{0, 1, 2, 3, len(all) - 1, len(all), len(all) + 1, 65535, 65536} {
			if many > 65536 {
				continue
			}
			want := all[:min(many, len(all))]
			for _, high := range above {
				if got := nodes.Subsets(low|high, many); !slices.Equal(got, want) {
					t.Errorf("Subsets(%#x, %d): %d sets that are not the %d wanted", low|high, many, len(got), len(want))
				}
			}
		}
	}
}

func TestListsAreNew(t *testing.T) { // P3.3, P3.9, R3
	l, s := nodes.List(7), nodes.Subsets(3, 9)
	clear(nodes.List(7))
	clear(nodes.Subsets(3, 9))
	if !slices.Equal(l, []int{0, 1, 2}) || !slices.Equal(s, []int{0, 1, 2, 3}) {
		t.Errorf("the lists of one call are changed through those of another: %d, %d", l, s)
	}
}

func TestManyOfNoMeaning(t *testing.T) { // R1
	for _, set := range someSets() {
		for _, many := range []int{-1, -65536, math.MinInt, 65537, 1 << 32, math.MaxInt} {
			nodes.Subsets(set, many)
		}
	}
}

func TestWrittenIsRead(t *testing.T) { // P3.10
	everySet(func(set int, in []int) {
		got, err := nodes.Parse(nodes.Text(set))
		if !slices.Equal(members(got), in) || got < 0 || got > 0xffff || err != api.OK {
			t.Fatalf("Parse(%q): %#x, %d", nodes.Text(set), got, err)
		}
	})
}

// texts are all of up to four of the pieces at which a letter's meaning changes.
func texts() []string {
	pieces := []string{"a", "b", "c", "o", "p", "q", "`", ".", " ", "A", "\x00", "\x80", "\xff", "\u0161", "\ufffd"}
	level, l := []string{""}, []string{""}
	for range 4 {
		var next []string
		for _, s := range level {
			for _, p := range pieces {
				next = append(next, s+p)
			}
		}
		level, l = next, append(l, next...)
	}
	return l
}

func TestReadIsWritten(t *testing.T) { // P3.5, P3.10
	written := map[string]int{}
	everySet(func(set int, _ []int) {
		written[nodes.Text(set)] = set & 0xffff
	})
	if len(written) != 1<<16 {
		t.Errorf("the sets have %d texts", len(written))
	}
	for _, s := range texts() {
		got, err := nodes.Parse(s)
		want, ok := written[s]
		switch {
		case !ok && (got != 0 || err != api.ErrForm):
			t.Errorf("Parse(%q), which is no set's text: %#x, %d", s, got, err)
		case ok && (got != want || err != api.OK || nodes.Text(got) != s):
			t.Errorf("Parse(%q): %#x, %d, want %#x", s, got, err, want)
		}
	}
}

func TestTwoToTheN(t *testing.T) { // P3.11
	everySet(func(set int, in []int) {
		if set&0xff != 0xa7 && set&0xff00 != 0x3900 { // all would be 43 million subsets
			return
		}
		got := nodes.Subsets(set, 65536)
		if len(got) != 1<<nodes.Count(set) || len(got) != 1<<len(in) {
			t.Fatalf("%#x, of %d nodes, has %d subsets", set, len(in), len(got))
		}
		for i, sub := range got {
			if i > 0 && sub <= got[i-1] || sub&^(set&0xffff) != 0 {
				t.Fatalf("Subsets(%#x) has %#x as number %d", set, sub, i)
			}
		}
	})
	if got := nodes.Subsets(0xffff, 65536); len(got) != 65536 || got[65535] != 0xffff {
		t.Errorf("all nodes have %d subsets", len(got))
	}
}

// FuzzSets holds what the calls say of any set and node against each other, and what is read of any text against what would be written (R1, P3.2, P3.8, P3.10).
func FuzzSets(f *testing.F) {
	for _, s := range []string{"", ".", "ac", "ca", "a\xff", "\u0161", "abcdefghijklmnop"} {
		f.Add(s, len(s), -len(s), 9)
	}
	f.Fuzz(func(t *testing.T, s string, set, n, many int) {
		got, err := nodes.Parse(s)
		if err == api.OK && nodes.Text(got) != s || err != api.OK && (err != api.ErrForm || got != 0) {
			t.Errorf("Parse(%q): %#x, %d", s, got, err)
		}
		if there := nodes.Has(nodes.With(set, n), n); there != nodes.Right(n) || nodes.Has(nodes.Without(set, n), n) {
			t.Errorf("%d is not in the set %#x when it is put there, or is when it is taken away", n, set)
		}
		if next := nodes.Next(set, n); nodes.Has(set, next) != (nodes.Count(set) > 0) || !slices.Equal(nodes.List(set), members(set)) {
			t.Errorf("Next(%#x, %d): %d", set, n, next)
		}
		if l := nodes.Subsets(set, many); many >= 0 && many <= 65536 && len(l) != min(many, 1<<nodes.Count(set)) {
			t.Errorf("Subsets(%#x, %d): %d sets", set, many, len(l))
		}
	})
}
