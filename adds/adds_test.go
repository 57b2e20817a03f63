package adds_test

import (
	"fmt"
	"math"
	"math/rand"
	"slices"
	"testing"

	"fingerpost/adds"
	"fingerpost/api"
	"fingerpost/nodes"
	"fingerpost/tree"
	"fingerpost/walk"
)

const (
	far     = math.MaxUint32
	maxCost = 65536
)

// noNodes are numbers that no node has, some of which have a node in their lowest bits.
var noNodes = []int{-1, -2, -16, 16, 17, 31, 32, 63, 64, 256, 1 << 32, 1<<32 + 1, math.MinInt, math.MinInt + 3, math.MaxInt}

// noCosts are what no link costs.
var noCosts = []uint32{0, maxCost + 1, maxCost + 2, 2 * maxCost, 1 << 31, far - 1, far}

// costs are what links may cost, with both edges among them.
var costs = []uint32{1, 2, 7, 255, 65535, maxCost}

// entry is an entry of that distance and that node ahead.
func entry(dist uint32, pred int) api.Entry {
	return api.Entry{Dist: dist, Pred: pred}
}

// of is the tree with those entries, all others being far: none is looked at.
func of(l map[int]api.Entry) api.Tree {
	var t api.Tree
	for j := range t {
		t[j] = entry(far, -1)
	}
	for j, e := range l {
		t[j] = e
	}
	return t
}

// with is t with e as the entry of j.
func with(t api.Tree, j int, e api.Entry) api.Tree {
	t[j] = e
	return t
}

// chain is the tree in which each node is ahead of the one behind it, and each edge costs that much.
func chain(cost uint32) api.Tree {
	var t api.Tree
	for j := range t {
		t[j] = entry(uint32(j)*cost, j-1)
	}
	return t
}

// star is the tree in which the root is ahead of all others, each of which costs more.
func star(root int) api.Tree {
	var t api.Tree
	for j := range t {
		t[j] = entry(uint32(j+1), root)
	}
	t[root] = entry(0, -1)
	return t
}

// fork is a sound tree of the root 3: 1 and 5 hang on it, 9 and 0 on 1, 15 on 9, 4 on 5; all others are far.
func fork() api.Tree {
	return of(map[int]api.Entry{3: entry(0, -1), 1: entry(7, 3), 5: entry(2, 3), 9: entry(8, 1), 0: entry(7+maxCost, 1), 15: entry(11, 9), 4: entry(5, 5)})
}

// aCost is any cost of a link, often one of the edges.
func aCost(r *rand.Rand) uint32 {
	if r.Intn(2) == 0 {
		return costs[r.Intn(len(costs))]
	}
	return 1 + uint32(r.Intn(maxCost))
}

// grown is a sound tree: each of its nodes hangs on one that was there, at what a link may cost.
func grown(r *rand.Rand, root int) api.Tree {
	t := of(map[int]api.Entry{root: entry(0, -1)})
	there := []int{root}
	for _, j := range r.Perm(16)[:r.Intn(17)] {
		if j != root {
			ahead := there[r.Intn(len(there))]
			t[j] = entry(t[ahead].Dist+aCost(r), ahead)
			there = append(there, j)
		}
	}
	return t
}

// wild is a tree of any distances, and of nodes ahead that may be any numbers.
func wild(r *rand.Rand) api.Tree {
	var t api.Tree
	for j := range t {
		t[j] = entry(r.Uint32()>>r.Intn(33), r.Intn(18)-1)
		switch r.Intn(12) {
		case 0:
			t[j].Dist = far
		case 1:
			t[j].Pred = noNodes[r.Intn(len(noNodes))]
		case 2:
			t[j] = entry(far-1, j)
		case 3:
			t[j] = entry(uint32(r.Intn(5)), r.Intn(16))
		}
	}
	return t
}

// bent is a tree that has grown, with some of its entries otherwise, if just by a little.
func bent(r *rand.Rand, root int) api.Tree {
	t, other := grown(r, root), wild(r)
	for range r.Intn(3) {
		j := r.Intn(16)
		switch r.Intn(4) {
		case 0:
			t[j].Pred = other[j].Pred
		case 1:
			t[j].Dist++
		case 2:
			t[j].Dist--
		default:
			t[j] = other[j]
		}
	}
	return t
}

// rooted is a tree, and its root.
type rooted struct {
	t    api.Tree
	root int
}

// sounds are trees that add up.
func sounds() []rooted {
	l := []rooted{{fork(), 3}, {chain(1), 0}, {chain(maxCost), 0}, {star(0), 0}, {star(15), 15}}
	r := rand.New(rand.NewSource(25))
	for root := range 16 {
		l = append(l, rooted{tree.New(root), root})
		for range 20 {
			l = append(l, rooted{grown(r, root), root})
		}
	}
	return l
}

// anyTrees are trees of all kinds.
func anyTrees() []api.Tree {
	l := []api.Tree{
		of(nil), {}, chain(1), chain(maxCost), chain(maxCost + 1), star(0), star(7), star(15), fork(),
		of(map[int]api.Entry{15: entry(0, 15)}),
		of(map[int]api.Entry{2: entry(5, 3), 3: entry(4, 2)}),
		of(map[int]api.Entry{2: entry(far-1, 3), 3: entry(1, 9), 9: entry(0, 16)}),
	}
	r := rand.New(rand.NewSource(52))
	for range 150 {
		l = append(l, grown(r, r.Intn(16)), bent(r, r.Intn(16)), wild(r))
	}
	return l
}

// isNode tells by chapter 3's words whether n is one.
func isNode(n int) bool {
	return 0 <= n && n <= 15
}

// numbers are all nodes, and some that are none.
func numbers() []int {
	l := slices.Clone(noNodes)
	for n := range 16 {
		l = append(l, n)
	}
	return l
}

// weightOf is Weight by the chapter's words.
func weightOf(t api.Tree, j int) (uint32, bool) {
	if !isNode(j) || t[j].Dist == far {
		return 0, false
	}
	pred := t[j].Pred
	if !isNode(pred) || t[pred].Dist == far || !(t[pred].Dist < t[j].Dist) {
		return 0, false
	}
	return t[j].Dist - t[pred].Dist, true
}

// soundOf is Sound by the chapter's words.
func soundOf(t api.Tree, root int) bool {
	if !isNode(root) || tree.Root(t) != root || t[root].Pred != -1 {
		return false
	}
	for j, e := range t {
		switch {
		case j == root:
		case e.Dist == far:
			if e.Pred != -1 {
				return false
			}
		default:
			if weight, is := weightOf(t, j); !is || weight > maxCost || walk.Hops(t, root, j) < 1 {
				return false
			}
		}
	}
	return true
}

// rebaseOf is Rebase by the chapter's words.
func rebaseOf(t api.Tree, root, self int, cost uint32) (api.Tree, api.Errno) {
	if !soundOf(t, root) || !isNode(self) || self == root || cost < 1 || cost > maxCost {
		return api.Tree{}, api.ErrArg
	}
	all := of(map[int]api.Entry{self: entry(0, -1)})
	for _, j := range walk.Order(t, root) {
		switch {
		case nodes.Has(walk.Below(t, root, self), j):
		case j == root:
			all[j] = entry(cost, self)
		default:
			all[j] = entry(t[j].Dist+cost, t[j].Pred)
		}
	}
	return all, api.OK
}

// gainsOf is Gains by the chapter's words.
func gainsOf(old, now api.Tree) (int, int) {
	less, more := 0, 0
	for j := range 16 {
		if now[j].Dist < old[j].Dist {
			less |= 1 << j
		} else if now[j].Dist != old[j].Dist {
			more |= 1 << j
		}
	}
	return less, more
}

// costsOf is Costs by the chapter's words.
func costsOf(t api.Tree, root int) uint64 {
	sum := uint64(0)
	for _, j := range walk.Order(t, root) {
		weight, _ := weightOf(t, j)
		sum += uint64(weight)
	}
	return sum
}

// edgesOf is Edges by the chapter's words.
func edgesOf(t api.Tree, root int) [][2]int {
	var l [][2]int
	for _, j := range walk.Order(t, root) {
		if j != root {
			l = append(l, [2]int{t[j].Pred, j})
		}
	}
	return l
}

func TestWeight(t *testing.T) { // P25.1
	for what, c := range map[string]struct {
		t    api.Tree
		j    int
		want uint32
		is   bool
	}{
		"of a child":                {fork(), 1, 7, true},
		"of a child's child":        {fork(), 9, 1, true},
		"the greatest of a link":    {fork(), 0, maxCost, true},
		"more than any link":        {chain(maxCost + 1), 4, maxCost + 1, true},
		"of the last node":          {chain(9), 15, 9, true},
		"the greatest":              {of(map[int]api.Entry{2: entry(0, -1), 5: entry(far-1, 2)}), 5, far - 1, true},
		"the least":                 {of(map[int]api.Entry{2: entry(far-2, -1), 5: entry(far-1, 2)}), 5, 1, true},
		"across the halves":         {of(map[int]api.Entry{2: entry(1<<31-1, -1), 5: entry(1<<31, 2)}), 5, 1, true},
		"far below":                 {of(map[int]api.Entry{2: entry(1, -1), 5: entry(1<<31+3, 2)}), 5, 1<<31 + 2, true},
		"one ahead who hangs on it": {of(map[int]api.Entry{2: entry(4, 5), 5: entry(6, 2)}), 5, 2, true},
		"of the root":               {fork(), 3, 0, false},
		"of one behind a root":      {of(map[int]api.Entry{2: entry(3, 5), 5: entry(1, -1)}), 2, 2, true},
		"far":                       {fork(), 2, 0, false},
		"far, behind one":           {of(map[int]api.Entry{2: entry(0, -1), 5: entry(far, 2)}), 5, 0, false},
		"both are far":              {of(map[int]api.Entry{5: entry(far, 2)}), 5, 0, false},
		"the one ahead is far":      {of(map[int]api.Entry{5: entry(6, 2)}), 5, 0, false},
		"almost far, behind far":    {of(map[int]api.Entry{5: entry(far-1, 2)}), 5, 0, false},
		"as near":                   {of(map[int]api.Entry{2: entry(6, -1), 5: entry(6, 2)}), 5, 0, false},
		"both at 0":                 {api.Tree{}, 5, 0, false},
		"nearer by one":             {of(map[int]api.Entry{2: entry(7, -1), 5: entry(6, 2)}), 5, 0, false},
		"nearer by much":            {of(map[int]api.Entry{2: entry(far-1, -1), 5: entry(0, 2)}), 5, 0, false},
		"ahead of itself":           {of(map[int]api.Entry{5: entry(6, 5)}), 5, 0, false},
		"nobody ahead":              {of(map[int]api.Entry{5: entry(6, -1)}), 5, 0, false},
		"beyond the last ahead":     {with(chain(1), 5, entry(6, 16)), 5, 0, false},
		"a low end ahead":           {with(chain(1), 5, entry(6, math.MinInt)), 5, 0, false},
		"a high end ahead":          {with(chain(1), 5, entry(6, math.MaxInt)), 5, 0, false},
		"a node in the lowest bits": {with(chain(1), 5, entry(6, 1<<32)), 5, 0, false},
		"of nobody":                 {chain(1), -1, 0, false},
		"of no node":                {chain(1), 16, 0, false},
		"of no node, far beyond":    {chain(1), 1<<32 + 3, 0, false},
		"of the lowest int":         {chain(1), math.MinInt, 0, false},
		"of the highest int":        {chain(1), math.MaxInt, 0, false},
	} {
		if got, is := adds.Weight(c.t, c.j); got != c.want || is != c.is {
			t.Errorf("%s: Weight(%v, %d): %d, %v, want %d, %v", what, c.t, c.j, got, is, c.want, c.is)
		}
	}
	for _, a := range anyTrees() {
		for _, j := range numbers() {
			want, isWant := weightOf(a, j)
			if got, is := adds.Weight(a, j); got != want || is != isWant {
				t.Fatalf("Weight(%v, %d): %d, %v, want %d, %v", a, j, got, is, want, isWant)
			}
		}
	}
}

func TestSound(t *testing.T) { // P25.2
	for what, c := range map[string]struct {
		t    api.Tree
		root int
		want bool
	}{
		"the root alone":               {tree.New(7), 7, true},
		"some":                         {fork(), 3, true},
		"a chain":                      {chain(1), 0, true},
		"a chain as long as can be":    {chain(maxCost), 0, true},
		"a star":                       {star(6), 6, true},
		"the last is the root":         {star(15), 15, true},
		"a chain that is too long":     {chain(maxCost + 1), 0, false},
		"one edge too long":            {with(fork(), 15, entry(9+maxCost, 9)), 3, false},
		"one edge just so":             {with(fork(), 15, entry(8+maxCost, 9)), 3, true},
		"the last node is too far":     {with(chain(1), 15, entry(15+maxCost, 14)), 0, false},
		"almost far":                   {with(fork(), 15, entry(far-1, 9)), 3, false},
		"another root":                 {fork(), 1, false},
		"a far root":                   {fork(), 2, false},
		"no root":                      {fork(), 16, false},
		"a root below":                 {fork(), -1, false},
		"the root in the lowest bits":  {fork(), 1<<32 + 3, false},
		"a root at the lowest int":     {fork(), math.MinInt, false},
		"nothing, of nobody":           {of(nil), -1, false},
		"two roots, of nobody":         {api.Tree{}, -1, false},
		"nothing":                      {of(nil), 3, false},
		"all are roots":                {api.Tree{}, 0, false},
		"two roots":                    {with(fork(), 2, entry(0, -1)), 3, false},
		"two, one behind the other":    {with(fork(), 2, entry(0, 3)), 3, false},
		"the root at 1":                {of(map[int]api.Entry{3: entry(1, -1)}), 3, false},
		"the root at 1, one behind it": {of(map[int]api.Entry{3: entry(1, -1), 4: entry(2, 3)}), 3, false},
		"the root ahead of itself":     {with(fork(), 3, entry(0, 3)), 3, false},
		"the root has one ahead":       {with(fork(), 3, entry(0, 1)), 3, false},
		"the root has a far one ahead": {with(fork(), 3, entry(0, 2)), 3, false},
		"the root, other than -1":      {with(fork(), 3, entry(0, -2)), 3, false},
		"the root, beyond":             {with(fork(), 3, entry(0, 16)), 3, false},
		"far, and one ahead":           {with(fork(), 2, entry(far, 3)), 3, false},
		"far, and itself ahead":        {with(fork(), 2, entry(far, 2)), 3, false},
		"far, and a far one ahead":     {with(fork(), 2, entry(far, 6)), 3, false},
		"far, other than -1":           {with(fork(), 2, entry(far, -2)), 3, false},
		"far, beyond":                  {with(fork(), 2, entry(far, 16)), 3, false},
		"far, the last one":            {with(tree.New(3), 15, entry(far, 0)), 3, false},
		"nobody ahead":                 {with(fork(), 5, entry(2, -1)), 3, false},
		"nobody ahead, beyond":         {with(fork(), 5, entry(2, 16)), 3, false},
		"a far one ahead":              {with(fork(), 5, entry(2, 6)), 3, false},
		"itself ahead":                 {with(fork(), 5, entry(2, 5)), 3, false},
		"as near as the one ahead":     {with(fork(), 9, entry(7, 1)), 3, false},
		"nearer than the one ahead":    {with(fork(), 9, entry(6, 1)), 3, false},
		"a ring":                       {with(with(fork(), 11, entry(4, 12)), 12, entry(4, 11)), 3, false},
		"a ring, all but one add up":   {with(with(fork(), 11, entry(4, 12)), 12, entry(5, 11)), 3, false},
		"nothing but a root's edges":   {of(map[int]api.Entry{0: entry(0, -1), 15: entry(maxCost, 0)}), 0, true},
	} {
		if got := adds.Sound(c.t, c.root); got != c.want {
			t.Errorf("%s: Sound(%v, %d): %v, want %v", what, c.t, c.root, got, c.want)
		}
	}
}

func TestSoundOfAny(t *testing.T) { // P25.2
	sound, not := 0, 0
	for _, a := range anyTrees() {
		for _, root := range numbers() {
			want := soundOf(a, root)
			if got := adds.Sound(a, root); got != want {
				t.Fatalf("Sound(%v, %d): %v, want %v", a, root, got, want)
			}
			if want {
				sound++
			} else {
				not++
			}
		}
	}
	if sound < 100 || not < 100 {
		t.Errorf("%d trees are sound, %d are not: not enough of both", sound, not)
	}
}

func TestOneEntryOff(t *testing.T) { // P25.2
	r := rand.New(rand.NewSource(2))
	for _, s := range sounds() {
		a, root := s.t, s.root
		if !adds.Sound(a, root) {
			t.Fatalf("Sound(%v, %d): false", a, root)
		}
		for j := range a {
			for _, e := range []api.Entry{
				entry(a[j].Dist+1, a[j].Pred), entry(a[j].Dist-1, a[j].Pred), entry(0, -1), entry(0, a[j].Pred), entry(far, a[j].Pred), entry(far, -1),
				entry(a[j].Dist, -1), entry(a[j].Dist, 16), entry(a[j].Dist, j), entry(a[j].Dist, root), entry(a[j].Dist, r.Intn(16)), entry(a[j].Dist+maxCost, a[j].Pred),
			} {
				b := with(a, j, e)
				if got, want := adds.Sound(b, root), soundOf(b, root); got != want {
					t.Fatalf("Sound(%v, %d): %v, want %v", b, root, got, want)
				}
			}
		}
	}
}

func TestExample(t *testing.T) { // P25.2
	for root := range 16 {
		if !adds.Sound(tree.New(root), root) {
			t.Errorf("the new tree of %d is not sound", root)
		}
		if adds.Sound(tree.New(root), (root+1)%16) {
			t.Errorf("the new tree of %d is sound from another one on", root)
		}
	}
	for _, n := range noNodes {
		if adds.Sound(tree.New(n), n) {
			t.Errorf("the new tree of %d is sound", n)
		}
	}
}

func TestWeights(t *testing.T) { // P25.3
	for what, c := range map[string]struct {
		t    api.Tree
		want [16]uint32
	}{
		"nothing":        {of(nil), [16]uint32{}},
		"the root alone": {tree.New(4), [16]uint32{}},
		"all at 0":       {api.Tree{}, [16]uint32{}},
		"some":           {fork(), [16]uint32{0: maxCost, 1: 7, 4: 3, 5: 2, 9: 1, 15: 3}},
		"a chain":        {chain(6), [16]uint32{0, 6, 6, 6, 6, 6, 6, 6, 6, 6, 6, 6, 6, 6, 6, 6}},
		"a star":         {star(0), [16]uint32{0, 2, 3, 4, 5, 6, 7, 8, 9, 10, 11, 12, 13, 14, 15, 16}},
		"without a way":  {of(map[int]api.Entry{2: entry(4, 5), 5: entry(6, 2), 6: entry(far-1, 5), 7: entry(far, 5)}), [16]uint32{5: 2, 6: far - 7}},
	} {
		if got := adds.Weights(c.t); got != c.want {
			t.Errorf("%s: Weights(%v): %v, want %v", what, c.t, got, c.want)
		}
	}
	for _, a := range anyTrees() {
		var want [16]uint32
		for j := range want {
			want[j], _ = weightOf(a, j)
		}
		if got := adds.Weights(a); got != want {
			t.Fatalf("Weights(%v): %v, want %v", a, got, want)
		}
	}
}

func TestMost(t *testing.T) { // P25.4
	for what, c := range map[string]struct {
		t    api.Tree
		want uint32
	}{
		"nothing":              {of(nil), 0},
		"the root alone":       {tree.New(4), 0},
		"all at 0":             {api.Tree{}, 0},
		"the first":            {fork(), 7 + maxCost},
		"the last":             {chain(maxCost), 15 * maxCost},
		"within":               {of(map[int]api.Entry{2: entry(4, -1), 7: entry(9, -1), 9: entry(8, -1)}), 9},
		"almost far":           {of(map[int]api.Entry{2: entry(far-1, -1), 3: entry(9, -1)}), far - 1},
		"above the half":       {of(map[int]api.Entry{2: entry(1<<31, -1), 3: entry(1<<31-1, -1)}), 1 << 31},
		"without any way":      {of(map[int]api.Entry{2: entry(77, 99)}), 77},
		"far ones ahead of it": {of(map[int]api.Entry{2: entry(far, 3), 3: entry(1, 2)}), 1},
		"not of the first":     {with(star(3), 0, entry(far, -1)), 16},
		"of the first alone":   {of(map[int]api.Entry{0: entry(5, -1)}), 5},
		"of the last alone":    {of(map[int]api.Entry{15: entry(5, -1)}), 5},
	} {
		if got := adds.Most(c.t); got != c.want {
			t.Errorf("%s: Most(%v): %d, want %d", what, c.t, got, c.want)
		}
	}
	for _, a := range anyTrees() {
		l := []uint32{0}
		for _, e := range a {
			if e.Dist != far {
				l = append(l, e.Dist)
			}
		}
		if got := adds.Most(a); got != slices.Max(l) {
			t.Fatalf("Most(%v): %d, want %d", a, got, slices.Max(l))
		}
	}
}

func TestRebase(t *testing.T) { // P25.5
	line := of(map[int]api.Entry{0: entry(0, -1), 1: entry(5, 0), 2: entry(9, 1)})
	for what, c := range map[string]struct {
		t          api.Tree
		root, self int
		cost       uint32
		want       map[int]api.Entry
	}{
		"a new one":              {tree.New(7), 7, 2, 5, map[int]api.Entry{2: entry(0, -1), 7: entry(5, 2)}},
		"one who is far":         {line, 0, 4, 3, map[int]api.Entry{4: entry(0, -1), 0: entry(3, 4), 1: entry(8, 0), 2: entry(12, 1)}},
		"a leaf":                 {line, 0, 2, 3, map[int]api.Entry{2: entry(0, -1), 0: entry(3, 2), 1: entry(8, 0)}},
		"one with some below it": {line, 0, 1, 3, map[int]api.Entry{1: entry(0, -1), 0: entry(3, 1)}},
		"below a child":          {fork(), 3, 1, 1, map[int]api.Entry{1: entry(0, -1), 3: entry(1, 1), 5: entry(3, 3), 4: entry(6, 5)}},
		"below the other child":  {fork(), 3, 5, 2, map[int]api.Entry{5: entry(0, -1), 3: entry(2, 5), 1: entry(9, 3), 9: entry(10, 1), 0: entry(9+maxCost, 1), 15: entry(13, 9)}},
		"below a child's child":  {fork(), 3, 9, 2, map[int]api.Entry{9: entry(0, -1), 3: entry(2, 9), 1: entry(9, 3), 0: entry(9+maxCost, 1), 5: entry(4, 3), 4: entry(7, 5)}},
		"at the greatest cost":   {line, 0, 2, maxCost, map[int]api.Entry{2: entry(0, -1), 0: entry(maxCost, 2), 1: entry(maxCost+5, 0)}},
		"at the least cost":      {line, 0, 2, 1, map[int]api.Entry{2: entry(0, -1), 0: entry(1, 2), 1: entry(6, 0)}},
		"a chain, to its end":    {chain(maxCost), 0, 1, 9, map[int]api.Entry{1: entry(0, -1), 0: entry(9, 1)}},
	} {
		if got, err := adds.Rebase(c.t, c.root, c.self, c.cost); got != of(c.want) || err != api.OK {
			t.Errorf("%s: Rebase(%v, %d, %d, %d): %v, %d, want %v", what, c.t, c.root, c.self, c.cost, got, err, of(c.want))
		}
	}
	// The longest way there is: all costs are the greatest, and nobody is below the last one.
	got, err := adds.Rebase(chain(maxCost), 0, 15, maxCost)
	want := chain(maxCost)
	for j := range want {
		want[j].Dist += maxCost
	}
	want[0].Pred, want[15] = 15, entry(0, -1)
	if got != want || err != api.OK {
		t.Errorf("of a long chain: %v, %d, want %v", got, err, want)
	}
}

func TestRebaseOfNone(t *testing.T) { // P25.5
	type call struct {
		t          api.Tree
		root, self int
		cost       uint32
	}
	l := []call{
		{fork(), 3, 3, 5},                                 // the root is no neighbour of its own
		{tree.New(0), 0, 0, 1},                            //
		{fork(), 1, 3, 5},                                 // the tree's root is another one
		{fork(), 2, 3, 5},                                 //
		{fork(), 16, 1, 5},                                // there is no such root
		{fork(), -1, 1, 5},                                //
		{of(nil), -1, 1, 5},                               //
		{of(nil), 0, 1, 5},                                // nothing is told
		{api.Tree{}, 0, 1, 5},                             // all are roots
		{chain(maxCost + 1), 0, 1, 5},                     // edges that are too long
		{with(fork(), 2, entry(far, 3)), 3, 1, 5},         // far, with one ahead
		{with(fork(), 9, entry(7, 1)), 3, 1, 5},           // as near as the one ahead
		{with(fork(), 3, entry(0, 1)), 3, 1, 5},           // one ahead of the root
		{with(fork(), 1, entry(7, -1)), 3, 1, 5},          // what hangs on nobody
		{with(fork(), 15, entry(far-1, 9)), 3, 1, 1},      // almost far
		{with(fork(), 15, entry(far-1, 9)), 3, 1, far},    //
		{with(chain(1), 15, entry(far, 16)), 0, 1, 5},     //
		{with(chain(1), 15, entry(0, 14)), 0, 15, 5},      //
		{with(tree.New(1), 1, entry(1, -1)), 1, 2, 5},     //
		{fork(), 3, -1, far},                              // all of it
		{api.Tree{}, -1, -1, 0},                           //
		{api.Tree{}, math.MinInt, math.MaxInt, far},       //
		{with(fork(), 3, entry(0, math.MinInt)), 3, 1, 5}, //
	}
	for _, n := range noNodes {
		l = append(l, call{fork(), 3, n, 5}, call{fork(), n, 1, 5}, call{tree.New(n), n, 1, 5})
	}
	for _, cost := range noCosts {
		l = append(l, call{fork(), 3, 1, cost}, call{tree.New(3), 3, 1, cost}, call{fork(), 3, 2, cost})
	}
	for _, c := range l {
		if got, err := adds.Rebase(c.t, c.root, c.self, c.cost); got != (api.Tree{}) || err != api.ErrArg {
			t.Errorf("Rebase(%v, %d, %d, %d): %v, %d", c.t, c.root, c.self, c.cost, got, err)
		}
	}
}

func TestRebaseOfAny(t *testing.T) { // P25.5
	r := rand.New(rand.NewSource(5))
	all := slices.Concat(costs, noCosts)
	for _, a := range anyTrees() {
		for _, root := range numbers() {
			for _, self := range numbers() {
				cost := all[r.Intn(len(all))]
				want, wantErr := rebaseOf(a, root, self, cost)
				if got, err := adds.Rebase(a, root, self, cost); got != want || err != wantErr {
					t.Fatalf("Rebase(%v, %d, %d, %d): %v, %d, want %v, %d", a, root, self, cost, got, err, want, wantErr)
				}
			}
		}
	}
}

func TestGains(t *testing.T) { // P25.6
	for what, c := range map[string]struct {
		old, now   api.Tree
		less, more int
	}{
		"itself":             {fork(), fork(), 0, 0},
		"nothing":            {of(nil), of(nil), 0, 0},
		"all came":           {of(nil), chain(1), 0xffff, 0},
		"all went":           {chain(1), of(nil), 0, 0xffff},
		"another root":       {tree.New(0), tree.New(15), 1 << 15, 1},
		"a longer way":       {fork(), with(fork(), 15, entry(12, 9)), 0, 1 << 15},
		"a shorter way":      {fork(), with(fork(), 15, entry(10, 9)), 1 << 15, 0},
		"another way":        {fork(), with(fork(), 15, entry(11, 3)), 0, 0},
		"longer all along":   {chain(1), chain(2), 0, 0xfffe},
		"shorter all along":  {chain(2), chain(1), 0xfffe, 0},
		"both":               {of(map[int]api.Entry{0: entry(5, 1), 1: entry(6, 1), 2: entry(7, 1)}), of(map[int]api.Entry{0: entry(6, 1), 1: entry(5, 1), 2: entry(7, 2), 3: entry(9, 1)}), 2 | 8, 1},
		"almost far":         {with(fork(), 2, entry(far-1, 3)), fork(), 0, 4},
		"no more so far":     {fork(), with(fork(), 2, entry(far-1, 3)), 4, 0},
		"above the half":     {of(map[int]api.Entry{1: entry(1<<31, 3), 2: entry(1, 3)}), of(map[int]api.Entry{1: entry(1, 3), 2: entry(1<<31+2, 3)}), 2, 4},
		"far, by whom":       {of(map[int]api.Entry{1: entry(far, 3)}), of(map[int]api.Entry{1: entry(far, 4)}), 0, 0},
		"from 0":             {api.Tree{}, chain(1), 0, 0xfffe},
		"trees of no nodes":  {of(map[int]api.Entry{3: entry(9, 16)}), of(map[int]api.Entry{3: entry(8, math.MinInt)}), 8, 0},
		"the first, and all": {with(chain(1), 0, entry(1, -1)), with(chain(1), 15, entry(14, 13)), 1 | 1<<15, 0},
	} {
		if less, more := adds.Gains(c.old, c.now); less != c.less || more != c.more {
			t.Errorf("%s: Gains(%v, %v): %d, %d, want %d, %d", what, c.old, c.now, less, more, c.less, c.more)
		}
	}
	l := anyTrees()
	for i, a := range l {
		for _, step := range []int{0, 1, 2, 3, 10, 100} {
			b := l[(i+step)%len(l)]
			less, more := adds.Gains(a, b)
			if wantLess, wantMore := gainsOf(a, b); less != wantLess || more != wantMore {
				t.Fatalf("Gains(%v, %v): %d, %d, want %d, %d", a, b, less, more, wantLess, wantMore)
			}
		}
	}
}

func TestCosts(t *testing.T) { // P25.7
	for what, c := range map[string]struct {
		t    api.Tree
		root int
		want uint64
	}{
		"the root alone":           {tree.New(7), 7, 0},
		"some":                     {fork(), 3, maxCost + 7 + 3 + 2 + 1 + 3},
		"a chain":                  {chain(maxCost), 0, 15 * maxCost},
		"from a node within":       {chain(5), 12, 4 * 5},
		"from a leaf":              {chain(5), 15, 5},
		"of a far root":            {fork(), 2, 0},
		"of no root":               {fork(), 16, 0},
		"of nobody":                {fork(), -1, 0},
		"all at 0":                 {api.Tree{}, 0, 0},
		"the root has one ahead":   {of(map[int]api.Entry{2: entry(9, 5), 5: entry(2, -1), 6: entry(10, 2)}), 2, 8},
		"who has none":             {of(map[int]api.Entry{2: entry(9, -1), 5: entry(3, 2), 6: entry(7, 5)}), 2, 4},
		"a root that has a weight": {with(with(fork(), 11, entry(4, 12)), 12, entry(9, 11)), 5, 2 + 3},
		"not of what is far":       {with(fork(), 9, entry(far, 1)), 3, maxCost + 7 + 3 + 2},
	} {
		if got := adds.Costs(c.t, c.root); got != c.want {
			t.Errorf("%s: Costs(%v, %d): %d, want %d", what, c.t, c.root, got, c.want)
		}
	}
	// More than 32 bits hold: eight times almost that.
	var many api.Tree
	for j := range many {
		many[j] = entry(uint32(j%2)*(far-1), 0)
	}
	many[0] = entry(1, -1)
	if got := adds.Costs(many, 0); got != 8*(far-2) {
		t.Errorf("Costs(%v, 0): %d, want %d", many, got, uint64(8*(far-2)))
	}
	for _, a := range anyTrees() {
		for _, root := range numbers() {
			if got, want := adds.Costs(a, root), costsOf(a, root); got != want {
				t.Fatalf("Costs(%v, %d): %d, want %d", a, root, got, want)
			}
		}
	}
}

func TestEdges(t *testing.T) { // P25.8
	for what, c := range map[string]struct {
		t    api.Tree
		root int
		want [][2]int
	}{
		"the root alone":           {tree.New(7), 7, nil},
		"some":                     {fork(), 3, [][2]int{{3, 1}, {3, 5}, {1, 0}, {1, 9}, {5, 4}, {9, 15}}},
		"a chain":                  {chain(1), 11, [][2]int{{11, 12}, {12, 13}, {13, 14}, {14, 15}}},
		"of a leaf":                {chain(1), 15, nil},
		"of a far root":            {fork(), 2, nil},
		"of no root":               {fork(), 16, nil},
		"of nobody":                {fork(), -1, nil},
		"of the lowest int":        {fork(), math.MinInt, nil},
		"nothing":                  {of(nil), 0, nil},
		"the root ahead of itself": {with(fork(), 3, entry(0, 3)), 5, [][2]int{{5, 4}}},
		"itself, and it is that":   {with(with(tree.New(3), 3, entry(0, 3)), 4, entry(1, 3)), 3, [][2]int{{3, 4}}},
		"what does not add up":     {of(map[int]api.Entry{2: entry(9, 5), 5: entry(9, 2)}), 2, [][2]int{{2, 5}}},
		"not what is far":          {with(fork(), 9, entry(far, 1)), 3, [][2]int{{3, 1}, {3, 5}, {1, 0}, {5, 4}}},
	} {
		if got := adds.Edges(c.t, c.root); !slices.Equal(got, c.want) {
			t.Errorf("%s: Edges(%v, %d): %v, want %v", what, c.t, c.root, got, c.want)
		}
	}
	for _, a := range anyTrees() {
		for _, root := range numbers() {
			if got, want := adds.Edges(a, root), edgesOf(a, root); !slices.Equal(got, want) {
				t.Fatalf("Edges(%v, %d): %v, want %v", a, root, got, want)
			}
		}
	}
}

// isSum looks whether each distance of a sound tree is the sum of the weights on the way there, and not too great for its hops.
func isSum(t *testing.T, a api.Tree, root int) {
	t.Helper()
	weights := adds.Weights(a)
	for _, j := range nodes.List(tree.Reached(a)) {
		way, is := walk.Back(a, root, j)
		sum := uint32(0)
		for _, n := range way {
			sum += weights[n]
		}
		if hops := walk.Hops(a, root, j); !is || sum != a[j].Dist || a[j].Dist > maxCost*uint32(hops) {
			t.Fatalf("%v from %d on: %d is at %d, in %d hops, whose weights are %d", a, root, j, a[j].Dist, hops, sum)
		}
	}
}

func TestDistanceIsTheSum(t *testing.T) { // P25.9
	for _, s := range sounds() {
		isSum(t, s.t, s.root)
	}
	many := 0
	for _, a := range anyTrees() {
		for root := range 16 {
			if adds.Sound(a, root) {
				isSum(t, a, root)
				many++
			}
		}
	}
	if many < 100 {
		t.Errorf("just %d trees were sound", many)
	}
}

// isSeen looks whether a sound tree stays sound where a neighbour sees it, and loses just what is below that one.
func isSeen(t *testing.T, a api.Tree, root, self int, cost uint32) {
	t.Helper()
	seen, err := adds.Rebase(a, root, self, cost)
	if err != api.OK || !adds.Sound(seen, self) || adds.Most(seen) > 15*maxCost {
		t.Fatalf("Rebase(%v, %d, %d, %d): %v, %d", a, root, self, cost, seen, err)
	}
	isSum(t, seen, self)
	left := tree.Reached(a) &^ walk.Below(a, root, self)
	if tree.Reached(seen) != left|1<<self || walk.First(seen, self, root) != root {
		t.Fatalf("Rebase(%v, %d, %d, %d): %v, want the nodes %s", a, root, self, cost, seen, nodes.Text(left))
	}
}

func TestSeenIsSound(t *testing.T) { // P25.10
	for _, s := range sounds() {
		for self := range 16 {
			for _, cost := range costs {
				if self != s.root {
					isSeen(t, s.t, s.root, self, cost)
				}
			}
		}
	}
}

func TestNothingIsChanged(t *testing.T) { // R3
	for _, a := range append(anyTrees(), fork()) {
		b, was := chain(2), a
		adds.Sound(a, 3)
		adds.Weight(a, 3)
		adds.Weights(a)
		adds.Most(a)
		adds.Rebase(a, 3, 5, 7)
		adds.Rebase(b, 0, 5, 7)
		adds.Gains(a, b)
		adds.Gains(b, a)
		adds.Costs(a, 3)
		adds.Edges(a, 3)
		if a != was || b != chain(2) {
			t.Fatalf("%v, and %v, were changed: %v, and %v", was, chain(2), a, b)
		}
	}
}

func TestMemoryOfItsOwn(t *testing.T) { // R3
	for range 3 {
		l := adds.Edges(fork(), 3)
		if fmt.Sprint(l) != "[[3 1] [3 5] [1 0] [1 9] [5 4] [9 15]]" {
			t.Fatalf("%v: it hangs on what was answered before", l)
		}
		l = l[:cap(l)]
		for i := range l {
			l[i] = [2]int{77, 77}
		}
	}
}

func TestOneAnswer(t *testing.T) { // R4
	for _, a := range anyTrees() {
		for root := range 16 {
			say := func() string {
				seen, err := adds.Rebase(a, root, (root+3)%16, 5)
				return fmt.Sprint(adds.Sound(a, root), adds.Weights(a), adds.Costs(a, root), adds.Edges(a, root), seen, err)
			}
			first := say()
			for range 3 {
				if again := say(); again != first {
					t.Fatalf("%v from %d on: %s, then %s", a, root, first, again)
				}
			}
		}
	}
}

// FuzzAdds holds what the calls say of any trees and numbers against the chapter's words (R1, P25.1 to P25.10).
func FuzzAdds(f *testing.F) {
	for _, n := range noNodes {
		f.Add(n, 1, n, uint32(5), int64(n))
		f.Add(2, n, n&15, uint32(n), int64(-n))
	}
	f.Fuzz(func(t *testing.T, root, self, j int, cost uint32, seed int64) {
		r := rand.New(rand.NewSource(seed))
		for _, a := range []api.Tree{wild(r), bent(r, root&15), grown(r, root&15)} {
			want, isWant := weightOf(a, j)
			if got, is := adds.Weight(a, j); got != want || is != isWant {
				t.Fatalf("Weight(%v, %d): %d, %v, want %d, %v", a, j, got, is, want, isWant)
			}
			for _, root := range []int{root, root & 15} {
				if got, want := adds.Sound(a, root), soundOf(a, root); got != want {
					t.Fatalf("Sound(%v, %d): %v, want %v", a, root, got, want)
				}
				if got, want := adds.Costs(a, root), costsOf(a, root); got != want {
					t.Fatalf("Costs(%v, %d): %d, want %d", a, root, got, want)
				}
				if got, want := adds.Edges(a, root), edgesOf(a, root); !slices.Equal(got, want) {
					t.Fatalf("Edges(%v, %d): %v, want %v", a, root, got, want)
				}
				for _, self := range []int{self, self & 15} {
					want, wantErr := rebaseOf(a, root, self, cost)
					if got, err := adds.Rebase(a, root, self, cost); got != want || err != wantErr {
						t.Fatalf("Rebase(%v, %d, %d, %d): %v, %d, want %v, %d", a, root, self, cost, got, err, want, wantErr)
					}
					if wantErr == api.OK {
						isSeen(t, a, root, self, cost)
					}
				}
			}
		}
	})
}
