package tree_test

import (
	"fmt"
	"math"
	"math/rand"
	"slices"
	"strings"
	"testing"

	"fingerpost/api"
	"fingerpost/nodes"
	"fingerpost/tree"
)

const far = math.MaxUint32

// noNodes are numbers that no node has, some of which have a node in their lowest bits.
var noNodes = []int{-1, -2, -16, 16, 17, 31, 32, 63, 64, 256, 1 << 32, 1<<32 + 1, math.MinInt, math.MinInt + 3, math.MaxInt}

// dists are distances, with the edges among them.
var dists = []uint32{0, 1, 2, 9, 10, 99, 100, 255, 256, 65535, 65536, 1 << 20, 1<<31 - 1, 1 << 31, far - 1, far}

// entry is an entry of that distance and that node ahead.
func entry(dist uint32, pred int) api.Entry {
	return api.Entry{Dist: dist, Pred: pred}
}

// of is the tree with those entries, all others being far: none is looked at.
func of(l map[int]api.Entry) api.Tree {
	var t api.Tree
	for j := range t {
		t[j] = entry(far, -1)
	}
	for j, e := range l {
		t[j] = e
	}
	return t
}

// all is the tree that has one entry at all its places.
func all(e api.Entry) api.Tree {
	var t api.Tree
	for j := range t {
		t[j] = e
	}
	return t
}

// chain is the tree in which each node is ahead of the one behind it, and each edge costs that much.
func chain(cost uint32) api.Tree {
	var t api.Tree
	for j := range t {
		t[j] = entry(uint32(j)*cost, j-1)
	}
	return t
}

// told is any tree in which each Pred is a node, or -1, and -1 of what is far, made without the package.
func told(r *rand.Rand) api.Tree {
	var t api.Tree
	for j := range t {
		t[j] = entry(r.Uint32()>>r.Intn(33), r.Intn(17)-1)
		if r.Intn(3) == 0 || t[j].Dist == far {
			t[j] = entry(far, -1)
		}
	}
	return t
}

// wild is a tree of any distances, and of any numbers as Preds.
func wild(r *rand.Rand) api.Tree {
	var t api.Tree
	for j := range t {
		dist, pred := r.Uint32()>>r.Intn(33), r.Intn(20)-2
		switch r.Intn(4) {
		case 0:
			dist = dists[r.Intn(len(dists))]
		case 1:
			pred = noNodes[r.Intn(len(noNodes))]
		case 2:
			dist, pred = far, int(r.Uint64())
		}
		t[j] = entry(dist, pred)
	}
	return t
}

// tolds are trees that may be told: none, some, and all of their destinations.
func tolds() []api.Tree {
	l := []api.Tree{
		of(nil),
		of(map[int]api.Entry{0: entry(0, -1)}),
		of(map[int]api.Entry{15: entry(0, -1)}),
		of(map[int]api.Entry{0: entry(0, -1), 1: entry(7, 0)}),
		of(map[int]api.Entry{2: entry(0, -1), 0: entry(5, 2), 15: entry(far-1, 0)}),
		of(map[int]api.Entry{3: entry(4, 3), 9: entry(1, 15)}),
		all(entry(0, -1)),
		all(entry(far-1, 15)),
		chain(1),
		chain(65536),
	}
	r := rand.New(rand.NewSource(23))
	for range 200 {
		l = append(l, told(r))
	}
	return l
}

// anyTrees are trees that may be told, and others.
func anyTrees() []api.Tree {
	l := append(tolds(),
		api.Tree{},
		all(entry(far, 0)),
		all(entry(far, math.MinInt)),
		all(entry(0, math.MaxInt)),
		all(entry(1, 16)),
		of(map[int]api.Entry{4: entry(far, 5), 5: entry(6, -2)}),
	)
	r := rand.New(rand.NewSource(32))
	for range 200 {
		l = append(l, wild(r))
	}
	return l
}

// isNode tells by chapter 3's words whether n is one.
func isNode(n int) bool {
	return 0 <= n && n <= 15
}

// letterOf is the letter of n, or a full stop, by chapter 3's words.
func letterOf(n int) string {
	if !isNode(n) {
		return "."
	}
	return string(rune('a' + n))
}

// textOf is Text by the chapter's words.
func textOf(t api.Tree) string {
	s := ""
	for j, e := range t {
		if e.Dist != 4294967295 {
			s += fmt.Sprintf("%c%d%s ", 'a'+j, e.Dist, letterOf(e.Pred))
		}
	}
	return s
}

// readOf is the tree that is read of t's Text: -1 of each Pred that is no node, and of what is far.
func readOf(t api.Tree) api.Tree {
	for j, e := range t {
		if e.Dist == far || !isNode(e.Pred) {
			t[j].Pred = -1
		}
	}
	return t
}

func TestNew(t *testing.T) { // P23.1
	for root := -20; root < 80; root++ {
		got := tree.New(root)
		for j, e := range got {
			want := entry(far, -1)
			if j == root {
				want = entry(0, -1)
			}
			if e != want {
				t.Errorf("New(%d) of %d: %v, want %v", root, j, e, want)
			}
		}
	}
}

func TestNewOfNone(t *testing.T) { // P23.1
	for _, n := range noNodes {
		if got := tree.New(n); got != of(nil) {
			t.Errorf("New(%d): %v", n, got)
		}
	}
}

func TestExample(t *testing.T) { // P23.1, P23.6
	if got := tree.Text(tree.New(2)); got != "c0. " {
		t.Errorf("Text(New(2)): %q", got)
	}
}

func TestGet(t *testing.T) { // P23.2
	some := of(map[int]api.Entry{0: entry(0, -1), 1: entry(7, 0), 4: entry(far, 3), 15: entry(9, -77)})
	for j, want := range map[int]api.Entry{
		0: entry(0, -1), 1: entry(7, 0), 2: entry(far, -1),
		// It is told as it stands, whatever that is.
		4: entry(far, 3), 15: entry(9, -77),
		-1: entry(far, -1), 16: entry(far, -1), 17: entry(far, -1), 1 << 32: entry(far, -1), math.MinInt: entry(far, -1), math.MaxInt: entry(far, -1),
	} {
		if got := tree.Get(some, j); got != want {
			t.Errorf("Get(%v, %d): %v, want %v", some, j, got, want)
		}
	}
	for _, a := range anyTrees() {
		for j := range 16 {
			if got := tree.Get(a, j); got != a[j] {
				t.Fatalf("Get(%v, %d): %v", a, j, got)
			}
		}
		for _, n := range noNodes {
			if got := tree.Get(a, n); got != entry(far, -1) {
				t.Fatalf("Get(%v, %d): %v", a, n, got)
			}
		}
	}
}

func TestPut(t *testing.T) { // P23.3
	entries := []api.Entry{{}, entry(0, -1), entry(far, -1), entry(7, 3), entry(far, 5), entry(3, 16), entry(far-1, math.MinInt), entry(1, math.MaxInt)}
	for _, a := range anyTrees() {
		for _, e := range entries {
			for j := range 16 {
				want := a
				want[j] = e
				if got := tree.Put(a, j, e); got != want {
					t.Fatalf("Put(%v, %d, %v): %v, want %v", a, j, e, got, want)
				}
			}
			for _, n := range noNodes {
				if got := tree.Put(a, n, e); got != a {
					t.Fatalf("Put(%v, %d, %v): %v", a, n, e, got)
				}
			}
		}
	}
}

func TestRoot(t *testing.T) { // P23.4
	for what, c := range map[string]struct {
		t    api.Tree
		want int
	}{
		"all far":               {of(nil), -1},
		"the first node":        {of(map[int]api.Entry{0: entry(0, -1)}), 0},
		"the last node":         {of(map[int]api.Entry{15: entry(0, -1)}), 15},
		"with others":           {of(map[int]api.Entry{3: entry(0, -1), 0: entry(1, 3), 15: entry(2, 3)}), 3},
		"a Pred is not asked":   {of(map[int]api.Entry{3: entry(0, 9)}), 3},
		"nor one that is none":  {of(map[int]api.Entry{3: entry(0, 99)}), 3},
		"none is at 0":          {of(map[int]api.Entry{3: entry(1, -1), 4: entry(2, 3)}), -1},
		"two":                   {of(map[int]api.Entry{3: entry(0, -1), 4: entry(0, -1)}), -1},
		"the first and last":    {of(map[int]api.Entry{0: entry(0, -1), 15: entry(0, 0)}), -1},
		"three":                 {of(map[int]api.Entry{0: entry(0, -1), 7: entry(0, 0), 15: entry(0, 0)}), -1},
		"all":                   {api.Tree{}, -1},
		"all but one":           {tree.Put(api.Tree{}, 5, entry(4, 0)), -1},
		"a chain":               {chain(1), 0},
		"far off, with no root": {all(entry(far-1, 0)), -1},
	} {
		if got := tree.Root(c.t); got != c.want {
			t.Errorf("%s: Root(%v): %d, want %d", what, c.t, got, c.want)
		}
	}
}

func TestRootOfAny(t *testing.T) { // P23.4
	for _, a := range anyTrees() {
		var at []int
		for j, e := range a {
			if e.Dist == 0 {
				at = append(at, j)
			}
		}
		want := -1
		if len(at) == 1 {
			want = at[0]
		}
		if got := tree.Root(a); got != want {
			t.Fatalf("Root(%v): %d, want %d", a, got, want)
		}
	}
	for one := range 16 {
		for other := range 16 {
			a := of(map[int]api.Entry{one: entry(0, -1), other: entry(0, -1)})
			want := -1
			if one == other {
				want = one
			}
			if got := tree.Root(a); got != want {
				t.Fatalf("Root of %d and %d: %d, want %d", one, other, got, want)
			}
		}
	}
}

func TestReached(t *testing.T) { // P23.5, P23.9
	for what, c := range map[string]struct {
		t     api.Tree
		set   int
		count int
	}{
		"all far":                {of(nil), 0, 0},
		"the first node":         {of(map[int]api.Entry{0: entry(0, -1)}), 1, 1},
		"the last node":          {of(map[int]api.Entry{15: entry(0, -1)}), 1 << 15, 1},
		"some":                   {of(map[int]api.Entry{2: entry(0, -1), 5: entry(3, 2), 9: entry(far-1, 5)}), 1<<2 | 1<<5 | 1<<9, 3},
		"all":                    {chain(9), 0xffff, 16},
		"zero":                   {api.Tree{}, 0xffff, 16},
		"all but one":            {tree.Put(chain(9), 3, entry(far, 2)), 0xffff &^ 8, 15},
		"almost far":             {all(entry(far-1, -1)), 0xffff, 16},
		"far, whatever is ahead": {all(entry(far, 4)), 0, 0},
	} {
		if set, count := tree.Reached(c.t), tree.Count(c.t); set != c.set || count != c.count {
			t.Errorf("%s: Reached of %v: %d, and Count %d, want %d and %d", what, c.t, set, count, c.set, c.count)
		}
	}
}

func TestReachedOfAny(t *testing.T) { // P23.5, P23.9
	for _, a := range anyTrees() {
		set, count := 0, 0
		for j, e := range a {
			if e.Dist != far {
				set += 1 << j
				count++
			}
		}
		if got, many := tree.Reached(a), tree.Count(a); got != set || many != count {
			t.Fatalf("Reached of %v: %d, and Count %d, want %d and %d", a, got, many, set, count)
		}
	}
}

func TestText(t *testing.T) { // P23.6
	for what, c := range map[string]struct {
		t    api.Tree
		want string
	}{
		"all far":               {of(nil), ""},
		"a root":                {of(map[int]api.Entry{0: entry(0, -1)}), "a0. "},
		"the last node":         {of(map[int]api.Entry{15: entry(0, -1)}), "p0. "},
		"rising":                {of(map[int]api.Entry{9: entry(10, 1), 1: entry(7, 0), 0: entry(0, -1)}), "a0. b7a j10b "},
		"the last one ahead":    {of(map[int]api.Entry{1: entry(7, 15)}), "b7p "},
		"itself ahead":          {of(map[int]api.Entry{1: entry(7, 1)}), "b7b "},
		"a root with one ahead": {of(map[int]api.Entry{1: entry(0, 4)}), "b0e "},
		"no node ahead":         {of(map[int]api.Entry{1: entry(7, 16), 2: entry(7, -2), 3: entry(7, math.MinInt), 4: entry(7, math.MaxInt), 5: entry(7, 1<<32)}), "b7. c7. d7. e7. f7. "},
		"far is not told":       {of(map[int]api.Entry{1: entry(far, 0), 2: entry(far-1, 0)}), "c4294967294a "},
		"the longest":           {all(entry(far-1, 15)), "a4294967294p b4294967294p c4294967294p d4294967294p e4294967294p f4294967294p g4294967294p h4294967294p i4294967294p j4294967294p k4294967294p l4294967294p m4294967294p n4294967294p o4294967294p p4294967294p "},
		"a chain":               {chain(1), "a0. b1a c2b d3c e4d f5e g6f h7g i8h j9i k10j l11k m12l n13m o14n p15o "},
		"zero":                  {api.Tree{}, "a0a b0a c0a d0a e0a f0a g0a h0a i0a j0a k0a l0a m0a n0a o0a p0a "},
	} {
		if got := tree.Text(c.t); got != c.want {
			t.Errorf("%s: Text(%v): %q, want %q", what, c.t, got, c.want)
		}
	}
	for _, a := range anyTrees() {
		if got, want := tree.Text(a), textOf(a); got != want {
			t.Fatalf("Text(%v): %q, want %q", a, got, want)
		}
	}
}

func TestParse(t *testing.T) { // P23.7
	for s, want := range map[string]api.Tree{
		"":                            of(nil),
		"a0. ":                        of(map[int]api.Entry{0: entry(0, -1)}),
		"p0. ":                        of(map[int]api.Entry{15: entry(0, -1)}),
		"b7a ":                        of(map[int]api.Entry{1: entry(7, 0)}),
		"b7p ":                        of(map[int]api.Entry{1: entry(7, 15)}),
		"b0b ":                        of(map[int]api.Entry{1: entry(0, 1)}),
		"a0. b7a ":                    of(map[int]api.Entry{0: entry(0, -1), 1: entry(7, 0)}),
		"a0. b0. ":                    of(map[int]api.Entry{0: entry(0, -1), 1: entry(0, -1)}),
		"c4294967294. ":               of(map[int]api.Entry{2: entry(far-1, -1)}),
		"c2147483648. ":               of(map[int]api.Entry{2: entry(1<<31, -1)}),
		"a100e j10b o9. ":             of(map[int]api.Entry{0: entry(100, 4), 9: entry(10, 1), 14: entry(9, -1)}),
		textOf(api.Tree{}):            {},
		textOf(chain(65536)):          chain(65536),
		textOf(all(entry(far-1, 15))): all(entry(far-1, 15)),
		textOf(all(entry(far-1, 16))): all(entry(far-1, -1)),
	} {
		if got, err := tree.Parse(s); got != want || err != api.OK {
			t.Errorf("Parse(%q): %v, %d, want %v", s, got, err, want)
		}
	}
}

// noTexts are texts of up to 300 bytes that no tree has.
var noTexts = []string{
	// Blanks that are missing, too many, or something else.
	" ", "  ", "b7a", " b7a ", "b7a  ", "b7a d2a", "b7a  d2a ", " b7a d2a ", "b7ad2a ", "b 7a ", "b7 a ", "b 7 a ", "b7a\t", "b7a\n", "b7a d2a\n", "b7a \n", "\nb7a ", "b7a\td2a ", "b7a\u00a0", "b7a\u2003d2a ", "b7a\v", "b7a\x85", "b7a,d2a ", "b7a d2", "b7a d", "b7a d2 ", "b7a d ",
	// Letters that are none, no letters, or more than one.
	"q7a ", "`7a ", "A7a ", "P7a ", "z7a ", "77a ", "7a ", ".7a ", "-7a ", "ab7a ", "bb7a ", "\x007a ", "\xff7a ", "\xe17a ", "\u01617a ", "\u00617\u0301a ", "\u03b17a ", "\u20047a ",
	// Of what is ahead likewise.
	"b7q ", "b7` ", "b7A ", "b7P ", "b7z ", "b77 ", "b7 ", "b7- ", "b7ab ", "b7aa ", "b7a. ", "b7.a ", "b7.. ", "b7\x00 ", "b7\xff ", "b7\u0161 ", "b7\u0061\u0301 ", "b7\u03b1 ", "b7-1 ", "b7, ", "b7\n ",
	// Letters that don't rise.
	"b7a a0. ", "d2a b7a ", "b7a b7a ", "b7a b8a ", "b7a b7. ", "b7a d2b b7a ", "b7a d2a c1a ", "p1a a1a ", "a0. a0. ",
	// Numbers that are no distances, or not written so.
	"ba ", "b. ", "b00a ", "b07a ", "b007a ", "b4294967295a ", "b4294967295. ", "b4294967296a ", "b4294967303a ", "b42949672950a ", "b18446744073709551616a ", "b18446744073709551623a ", "b99999999999999999999999999a ", "b+7a ", "b-7a ", "b-0a ", "b+0a ", "b7.0a ", "b7e0a ", "b7e0e ", "b0x7a ", "b0xaa ", "b0b1a ", "b0o7a ", "b7_0a ", "b1_000a ", "bxa ", "b\u0667a ", "b\uff17a ", "b7\x00a ", "b\x007a ", "b7\xffa ",
	// An entry that is right does not make another one so.
	"b7a q7a ", "b7a c ", "b7a .", "b7a . ", ". ", ".", "a", "a ", "aa ", "ab ", "b7a 65a ", "q7a b7a ", "b4294967295a c7a ",
}

func TestParseOfNone(t *testing.T) { // P23.7
	for _, s := range noTexts {
		if got, err := tree.Parse(s); got != (api.Tree{}) || err != api.ErrForm {
			t.Errorf("Parse(%q): %v, %d", s, got, err)
		}
	}
}

func TestParseOfLong(t *testing.T) { // P23.7
	longest := textOf(all(entry(far-1, 15)))
	for _, c := range []struct {
		s    string
		want api.Errno
	}{
		{strings.Repeat("b", 300), api.ErrForm},
		{strings.Repeat(" ", 300), api.ErrForm},
		{"b" + strings.Repeat("0", 296) + "7a ", api.ErrForm},
		{"b7a " + strings.Repeat(" ", 296), api.ErrForm},
		{strings.Repeat("b7a ", 75), api.ErrForm},
		{longest + strings.Repeat("p0. ", 23), api.ErrForm},
		{strings.Repeat("b", 301), api.ErrLong},
		{strings.Repeat(" ", 301), api.ErrLong},
		{strings.Repeat("\x00", 301), api.ErrLong},
		{"b" + strings.Repeat("0", 297) + "7a ", api.ErrLong},
		{"b7a " + strings.Repeat(" ", 297), api.ErrLong},
		{strings.Repeat("b7a ", 76), api.ErrLong},
		// Bytes count, not runes.
		{strings.Repeat("\u00e4", 150), api.ErrForm},
		{strings.Repeat("\u00e4", 151), api.ErrLong},
		{strings.Repeat("b7a ", 1<<18), api.ErrLong},
	} {
		if got, err := tree.Parse(c.s); got != (api.Tree{}) || err != c.want {
			t.Errorf("Parse of %d bytes, %.20q: %v, %d, want %d", len(c.s), c.s, got, err, c.want)
		}
	}
}

func TestBetter(t *testing.T) { // P23.8
	a := of(map[int]api.Entry{0: entry(0, -1), 1: entry(7, 0), 2: entry(5, 1), 4: entry(3, 1), 15: entry(far-1, 4)})
	for what, c := range map[string]struct {
		a, b, want api.Tree
	}{
		"itself":             {a, a, a},
		"all far":            {of(nil), of(nil), of(nil)},
		"nothing better":     {a, of(nil), a},
		"all is better":      {of(nil), a, a},
		"less":               {a, of(map[int]api.Entry{1: entry(6, 9)}), tree.Put(a, 1, entry(6, 9))},
		"more":               {a, of(map[int]api.Entry{1: entry(8, 9)}), a},
		"the same, from a":   {a, of(map[int]api.Entry{1: entry(7, 9)}), a},
		"far, from a":        {all(entry(far, 3)), all(entry(far, 5)), all(entry(far, 3))},
		"at 0, from a":       {all(entry(0, 3)), all(entry(0, 5)), all(entry(0, 3))},
		"0 is less than 1":   {all(entry(1, 3)), all(entry(0, 5)), all(entry(0, 5))},
		"far is the most":    {all(entry(far, 3)), all(entry(far-1, 5)), all(entry(far-1, 5))},
		"the halves of 32":   {all(entry(1<<31, 3)), all(entry(1<<31-1, 5)), all(entry(1<<31-1, 5))},
		"some of each":       {of(map[int]api.Entry{0: entry(2, 1), 3: entry(9, 1)}), of(map[int]api.Entry{0: entry(3, 2), 3: entry(8, 2), 7: entry(1, 2)}), of(map[int]api.Entry{0: entry(2, 1), 3: entry(8, 2), 7: entry(1, 2)})},
		"whatever is ahead":  {all(entry(4, math.MinInt)), all(entry(3, math.MaxInt)), all(entry(3, math.MaxInt))},
		"the last one alone": {all(entry(4, 1)), of(map[int]api.Entry{15: entry(3, 2)}), tree.Put(all(entry(4, 1)), 15, entry(3, 2))},
	} {
		if got := tree.Better(c.a, c.b); got != c.want {
			t.Errorf("%s: Better(%v, %v): %v, want %v", what, c.a, c.b, got, c.want)
		}
	}
}

func TestBetterOfAny(t *testing.T) { // P23.8
	l := anyTrees()
	for i, a := range l {
		for _, step := range []int{0, 1, 2, 3, 10, 100} {
			b := l[(i+step)%len(l)]
			var want api.Tree
			for j := range want {
				want[j] = slices.MinFunc([]api.Entry{a[j], b[j]}, func(x, y api.Entry) int { return int(x.Dist) - int(y.Dist) })
			}
			if got := tree.Better(a, b); got != want {
				t.Fatalf("Better(%v, %v): %v, want %v", a, b, got, want)
			}
		}
	}
}

func TestNewReachesItsRoot(t *testing.T) { // P23.10
	for root := range 16 {
		a := tree.New(root)
		if tree.Reached(a) != 1<<root || tree.Count(a) != 1 || tree.Root(a) != root {
			t.Errorf("New(%d) reaches %s, its root is %d", root, nodes.Text(tree.Reached(a)), tree.Root(a))
		}
	}
	for _, n := range noNodes {
		a := tree.New(n)
		if tree.Reached(a) != 0 || tree.Count(a) != 0 || tree.Root(a) != -1 {
			t.Errorf("New(%d) reaches %s, its root is %d", n, nodes.Text(tree.Reached(a)), tree.Root(a))
		}
	}
}

func TestToldIsRead(t *testing.T) { // P23.11
	for _, a := range tolds() {
		if got, err := tree.Parse(tree.Text(a)); got != a || err != api.OK {
			t.Errorf("Parse(%q): %v, %d, want %v", tree.Text(a), got, err, a)
		}
	}
	for j := range 16 {
		for pred := -1; pred < 16; pred++ {
			for _, dist := range dists[:len(dists)-1] {
				a := of(map[int]api.Entry{j: entry(dist, pred)})
				if got, err := tree.Parse(tree.Text(a)); got != a || err != api.OK {
					t.Fatalf("Parse(%q): %v, %d, want %v", tree.Text(a), got, err, a)
				}
			}
		}
	}
}

func TestAnyIsRead(t *testing.T) { // P23.7, P23.11
	for _, a := range anyTrees() {
		if got, err := tree.Parse(tree.Text(a)); got != readOf(a) || err != api.OK {
			t.Fatalf("Parse(%q): %v, %d, want %v", tree.Text(a), got, err, readOf(a))
		}
	}
}

// isRead looks whether Parse answers the tree whose text s is, or, if there is none, that s is of a wrong form.
func isRead(t *testing.T, s string) {
	t.Helper()
	got, err := tree.Parse(s)
	switch {
	case err == api.OK && (readOf(got) != got || textOf(got) != s):
		t.Fatalf("Parse(%q): %v, whose text is %q", s, got, textOf(got))
	case err != api.OK && got != (api.Tree{}):
		t.Fatalf("Parse(%q): %v, %d", s, got, err)
	case (err == api.ErrLong) != (len(s) > 300) || err != api.OK && err != api.ErrLong && err != api.ErrForm:
		t.Fatalf("Parse of %d bytes, %.40q: %d", len(s), s, err)
	}
}

func TestReadIsWritten(t *testing.T) { // P23.7, P23.11
	pieces := []string{"a", "b", "p", "q", "0", "1", "7", "4294967294", "4294967295", " ", "\n", "+", "_", ".", "\xff"}
	level := []string{""}
	for range 4 {
		var next []string
		for _, s := range level {
			for _, p := range pieces {
				isRead(t, s+p)
				isRead(t, s+p+" ")
				next = append(next, s+p)
			}
		}
		level = next
	}
}

func TestOneByteOff(t *testing.T) { // P23.7, P23.11
	for _, a := range tolds()[:40] {
		s := tree.Text(a)
		for i := range len(s) {
			isRead(t, s[:i])
			isRead(t, s[:i]+s[i+1:])
			for _, b := range []string{" ", "0", "1", "9", "a", "p", "q", ".", "+", "\x00", "\x80"} {
				isRead(t, s[:i]+b+s[i:])
				isRead(t, s[:i]+b+s[i+1:])
			}
		}
	}
}

func TestPutTogether(t *testing.T) { // P23.2, P23.3, P23.5
	r := rand.New(rand.NewSource(3))
	for range 200 {
		a := tree.New(r.Intn(20) - 2)
		last := a
		for range 60 {
			j, e := r.Intn(22)-3, entry(dists[r.Intn(len(dists))], r.Intn(20)-2)
			a = tree.Put(a, j, e)
			if isNode(j) {
				last[j] = e
			}
			if a != last || isNode(j) && tree.Get(a, j) != e || nodes.Has(tree.Reached(a), j) != (isNode(j) && e.Dist != far) {
				t.Fatalf("Put of %d, %v: %v, want %v", j, e, a, last)
			}
		}
	}
}

func TestNothingIsChanged(t *testing.T) { // R3
	for _, a := range anyTrees() {
		b, was := chain(2), a
		tree.Get(a, 3)
		tree.Put(a, 3, entry(77, 7))
		tree.Root(a)
		tree.Reached(a)
		tree.Text(a)
		tree.Better(a, b)
		tree.Better(b, a)
		tree.Count(a)
		if a != was || b != chain(2) {
			t.Fatalf("%v, and %v, were changed: %v, and %v", was, chain(2), a, b)
		}
	}
}

func TestOneAnswer(t *testing.T) { // R4
	for _, a := range anyTrees() {
		first, err := tree.Parse(tree.Text(a))
		for range 3 {
			if again, more := tree.Parse(tree.Text(a)); again != first || more != err {
				t.Fatalf("Parse(%q): %v, then %v", tree.Text(a), first, again)
			}
			if tree.Text(a) != textOf(a) || tree.New(4) != of(map[int]api.Entry{4: entry(0, -1)}) {
				t.Fatalf("Text(%v): %q; New(4): %v", a, tree.Text(a), tree.New(4))
			}
		}
	}
}

// FuzzTree holds what the calls say of any trees and texts against the chapter's words (R1, P23.1 to P23.11).
func FuzzTree(f *testing.F) {
	for _, s := range append(noTexts, "", "b7a d2b ", "p4294967294. ") {
		f.Add(s, len(s), len(s), uint32(len(s)), int64(len(s)))
	}
	f.Add("a0. b7a ", math.MinInt, math.MaxInt, uint32(far), int64(0))
	f.Fuzz(func(t *testing.T, s string, j, pred int, dist uint32, seed int64) {
		isRead(t, s)
		r := rand.New(rand.NewSource(seed))
		a, b, e := wild(r), told(r), entry(dist, pred)
		if tree.Text(a) != textOf(a) || tree.Count(a) != nodes.Count(tree.Reached(a)) {
			t.Fatalf("Text(%v): %q; Count %d", a, tree.Text(a), tree.Count(a))
		}
		if got, err := tree.Parse(tree.Text(b)); got != b || err != api.OK {
			t.Fatalf("Parse(%q): %v, %d", tree.Text(b), got, err)
		}
		for _, j := range []int{j, j & 15} {
			got := tree.Put(a, j, e)
			if isNode(j) && (tree.Get(got, j) != e || tree.Put(got, j, a[j]) != a) || !isNode(j) && got != a {
				t.Fatalf("Put(%v, %d, %v): %v", a, j, e, got)
			}
		}
		for i, got := range tree.Better(a, b) {
			if got != a[i] && got != b[i] || got.Dist > a[i].Dist || got.Dist > b[i].Dist || got != a[i] && a[i].Dist == b[i].Dist {
				t.Fatalf("Better(%v, %v) of %d: %v", a, b, i, got)
			}
		}
	})
}
