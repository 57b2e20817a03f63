package walk_test

import (
	"fmt"
	"math"
	"math/rand"
	"slices"
	"testing"

	"fingerpost/api"
	"fingerpost/nodes"
	"fingerpost/tree"
	"fingerpost/walk"
)

const far = math.MaxUint32

// noNodes are numbers that no node has, some of which have a node in their lowest bits.
var noNodes = []int{-1, -2, -16, 16, 17, 31, 32, 63, 64, 256, 1 << 32, 1<<32 + 1, math.MinInt, math.MinInt + 3, math.MaxInt}

// entry is an entry of that distance and that node ahead.
func entry(dist uint32, pred int) api.Entry {
	return api.Entry{Dist: dist, Pred: pred}
}

// of is the tree with those entries, all others being far: none is looked at.
func of(l map[int]api.Entry) api.Tree {
	var t api.Tree
	for j := range t {
		t[j] = entry(far, -1)
	}
	for j, e := range l {
		t[j] = e
	}
	return t
}

// preds is the tree of those nodes ahead, in which all of them are reached, at distances that mean nothing to a way.
func preds(l ...int) api.Tree {
	t := of(nil)
	for j, pred := range l {
		t[j] = entry(uint32(j*7%16), pred)
	}
	return t
}

// chain is the tree in which each node is ahead of the one behind it.
func chain() api.Tree {
	var t api.Tree
	for j := range t {
		t[j] = entry(uint32(j), j-1)
	}
	return t
}

// round is the tree in which each node is ahead of the one behind it, and the last one ahead of the first.
func round() api.Tree {
	t := chain()
	t[0].Pred = 15
	return t
}

// grown is a tree whose ways all come to the root: each of its nodes hangs on one that was there.
func grown(r *rand.Rand, root int) api.Tree {
	t := of(map[int]api.Entry{root: entry(0, -1)})
	there := []int{root}
	for _, j := range r.Perm(16)[:r.Intn(17)] {
		if j != root {
			ahead := there[r.Intn(len(there))]
			t[j] = entry(t[ahead].Dist+1+uint32(r.Intn(9)), ahead)
			there = append(there, j)
		}
	}
	return t
}

// wild is a tree of any distances, and of nodes ahead that may be any numbers.
func wild(r *rand.Rand) api.Tree {
	var t api.Tree
	for j := range t {
		t[j] = entry(r.Uint32()>>r.Intn(33), r.Intn(18)-1)
		switch r.Intn(12) {
		case 0:
			t[j].Dist = far
		case 1:
			t[j].Pred = noNodes[r.Intn(len(noNodes))]
		case 2:
			t[j] = entry(far-1, j)
		}
	}
	return t
}

// bent is a tree that has grown, with some of its entries otherwise.
func bent(r *rand.Rand, root int) api.Tree {
	t, other := grown(r, root), wild(r)
	for range r.Intn(3) {
		j := r.Intn(16)
		t[j] = other[j]
	}
	return t
}

// anyTrees are trees of all kinds.
func anyTrees() []api.Tree {
	l := []api.Tree{
		of(nil), {}, chain(), round(),
		of(map[int]api.Entry{0: entry(0, -1)}),
		of(map[int]api.Entry{15: entry(0, 15)}),
		preds(-1, 0, 0, 1, 1, 2, 2, 3, 3, 4, 4, 5, 5, 6, 6, 7),
		preds(1, 2, 0, 0, 3),
		preds(0, 1, 2, 3, 4, 5),
		preds(3, 0, 1, 2, 3),
		preds(15, 16, 17, -2, math.MinInt, math.MaxInt, 1<<32, 1<<32+1),
	}
	r := rand.New(rand.NewSource(24))
	for range 60 {
		l = append(l, grown(r, r.Intn(16)), bent(r, r.Intn(16)), wild(r))
	}
	return l
}

// isNode tells by chapter 3's words whether n is one.
func isNode(n int) bool {
	return 0 <= n && n <= 15
}

// numbers are all nodes, and some that are none.
func numbers() []int {
	l := slices.Clone(noNodes)
	for n := range 16 {
		l = append(l, n)
	}
	return l
}

// backOf is Back by the chapter's words.
func backOf(t api.Tree, root, j int) ([]int, bool) {
	if !isNode(root) || !isNode(j) || t[j].Dist == far {
		return nil, false
	}
	all := []int{j}
	for all[len(all)-1] != root {
		next := t[all[len(all)-1]].Pred
		if !isNode(next) || slices.Contains(all, next) || t[next].Dist == far {
			return nil, false
		}
		all = append(all, next)
	}
	return all, true
}

// hopsOf is Hops by the chapter's words.
func hopsOf(t api.Tree, root, j int) int {
	if all, is := backOf(t, root, j); is {
		return len(all) - 1
	}
	return -1
}

// childrenOf is the list of Children by the chapter's words.
func childrenOf(t api.Tree, n int) []int {
	var l []int
	for j, e := range t {
		if isNode(n) && j != n && e.Pred == n && e.Dist != far {
			l = append(l, j)
		}
	}
	return l
}

// belowOf is the list of Below by the chapter's words.
func belowOf(t api.Tree, root, n int) []int {
	var l []int
	for j := range t {
		if all, is := backOf(t, root, j); is && slices.Contains(all, n) {
			l = append(l, j)
		}
	}
	return l
}

// meetOf is Meet by the chapter's words.
func meetOf(t api.Tree, root, a, b int) int {
	one, isOne := backOf(t, root, a)
	other, isOther := backOf(t, root, b)
	if !isOne || !isOther {
		return -1
	}
	return one[slices.IndexFunc(one, func(n int) bool { return slices.Contains(other, n) })]
}

// orderOf is Order by the chapter's words.
func orderOf(t api.Tree, root int) []int {
	if hopsOf(t, root, root) != 0 {
		return nil
	}
	order := []int{root}
	for i := 0; i < len(order); i++ {
		for _, j := range childrenOf(t, order[i]) {
			if hopsOf(t, root, j) > 0 {
				order = append(order, j)
			}
		}
	}
	return order
}

// setOf is the set of those nodes.
func setOf(l []int) int {
	set := 0
	for _, n := range l {
		set |= 1 << n
	}
	return set
}

// leavesOf is Leaves by the chapter's words.
func leavesOf(t api.Tree, root int) int {
	set := 0
	for _, n := range orderOf(t, root) {
		if slices.Equal(belowOf(t, root, n), []int{n}) {
			set |= 1 << n
		}
	}
	return set
}

// binary is a tree of the root 0, each of whose nodes is ahead of two, of which some are cut off, or go elsewhere.
func binary() api.Tree {
	t := preds(-1, 0, 0, 1, 1, 2, 2, 3, 3, 4, 4)
	t[2].Dist = far         // 5 and 6 hang on what is far
	t[9] = entry(3, 12)     // as 9 does
	t[11] = entry(3, 13)    // a ring, beside the root's tree
	t[13] = entry(3, 14)    //
	t[14] = entry(3, 11)    //
	t[15] = entry(3, 15)    // ahead of itself
	t[12] = entry(far, 0)   // far, though the root is ahead of it
	t[10] = entry(far-1, 4) // as far as what is reached can be
	t[8] = entry(1<<31, 3)  //
	return t
}

func TestBack(t *testing.T) { // P24.1
	for what, c := range map[string]struct {
		t       api.Tree
		root, j int
		want    []int
	}{
		"the root":                    {chain(), 0, 0, []int{0}},
		"one hop":                     {chain(), 0, 1, []int{1, 0}},
		"two hops":                    {chain(), 0, 2, []int{2, 1, 0}},
		"as many as there are nodes":  {chain(), 0, 15, []int{15, 14, 13, 12, 11, 10, 9, 8, 7, 6, 5, 4, 3, 2, 1, 0}},
		"a root within":               {chain(), 4, 7, []int{7, 6, 5, 4}},
		"past the root":               {chain(), 4, 3, nil},
		"the root within":             {chain(), 9, 9, []int{9}},
		"all the way round":           {round(), 0, 15, []int{15, 14, 13, 12, 11, 10, 9, 8, 7, 6, 5, 4, 3, 2, 1, 0}},
		"round by the first":          {round(), 3, 1, []int{1, 0, 15, 14, 13, 12, 11, 10, 9, 8, 7, 6, 5, 4, 3}},
		"round, at the root":          {round(), 3, 3, []int{3}},
		"no root":                     {chain(), 16, 3, nil},
		"a root below":                {chain(), -1, 0, nil},
		"no root, and the end":        {chain(), -1, 3, nil},
		"no destination":              {chain(), 0, 16, nil},
		"a destination below":         {chain(), 0, -1, nil},
		"none of both":                {chain(), 16, 16, nil},
		"none of both, below":         {chain(), -1, -1, nil},
		"far":                         {binary(), 0, 12, nil},
		"far, and the root":           {of(nil), 3, 3, nil},
		"far, and the root ahead":     {of(map[int]api.Entry{3: entry(far, 0), 0: entry(0, -1)}), 0, 3, nil},
		"the root is far":             {of(map[int]api.Entry{3: entry(2, 0)}), 0, 3, nil},
		"one on the way is far":       {binary(), 0, 5, nil},
		"the next one is far":         {binary(), 0, 9, nil},
		"almost far":                  {binary(), 0, 10, []int{10, 4, 1, 0}},
		"at half of it":               {binary(), 0, 8, []int{8, 3, 1, 0}},
		"a ring":                      {binary(), 0, 11, nil},
		"a ring with the root":        {binary(), 14, 11, []int{11, 13, 14}},
		"ahead of itself":             {binary(), 0, 15, nil},
		"ahead of itself, the root":   {binary(), 15, 15, []int{15}},
		"at 0, and not the root":      {api.Tree{}, 1, 3, nil},
		"all at 0":                    {api.Tree{}, 0, 3, []int{3, 0}},
		"into a ring":                 {preds(1, 2, 1, 0), 3, 0, nil},
		"into a ring of one":          {preds(1, 1, 1, 0), 3, 0, nil},
		"nobody ahead":                {preds(-1, 0, -1, 2), 0, 3, nil},
		"nobody ahead, beyond":        {preds(-1, 0, 16, 2), 0, 3, nil},
		"nobody ahead, far beyond":    {preds(-1, 0, 1<<32+1, 2), 0, 3, nil},
		"nobody ahead, at ints' ends": {preds(-1, 0, math.MinInt, math.MaxInt), 0, 3, nil},
		"shorter than its distance":   {of(map[int]api.Entry{2: entry(0, -1), 5: entry(99, 2)}), 2, 5, []int{5, 2}},
		"nearer than the one ahead":   {of(map[int]api.Entry{2: entry(9, -1), 5: entry(1, 2)}), 2, 5, []int{5, 2}},
	} {
		got, is := walk.Back(c.t, c.root, c.j)
		if !slices.Equal(got, c.want) || is != (c.want != nil) {
			t.Errorf("%s: Back(%v, %d, %d): %v, %v, want %v", what, c.t, c.root, c.j, got, is, c.want)
		}
	}
}

func TestExample(t *testing.T) { // P24.1
	for root := range 16 {
		if got, is := walk.Back(tree.New(root), root, root); !slices.Equal(got, []int{root}) || !is {
			t.Errorf("Back from the root %d: %v, %v", root, got, is)
		}
	}
}

func TestBackOfAny(t *testing.T) { // P24.1, P24.2
	for _, a := range anyTrees() {
		for _, root := range numbers() {
			for _, j := range numbers() {
				want, isWant := backOf(a, root, j)
				if got, is := walk.Back(a, root, j); !slices.Equal(got, want) || is != isWant {
					t.Fatalf("Back(%v, %d, %d): %v, %v, want %v", a, root, j, got, is, want)
				}
				slices.Reverse(want)
				if got, is := walk.Path(a, root, j); !slices.Equal(got, want) || is != isWant {
					t.Fatalf("Path(%v, %d, %d): %v, %v, want %v", a, root, j, got, is, want)
				}
			}
		}
	}
}

func TestPath(t *testing.T) { // P24.2
	for what, c := range map[string]struct {
		t       api.Tree
		root, j int
		want    []int
	}{
		"the root":          {chain(), 0, 0, []int{0}},
		"one hop":           {chain(), 0, 1, []int{0, 1}},
		"some hops":         {binary(), 0, 10, []int{0, 1, 4, 10}},
		"all nodes":         {chain(), 0, 15, []int{0, 1, 2, 3, 4, 5, 6, 7, 8, 9, 10, 11, 12, 13, 14, 15}},
		"round":             {round(), 14, 1, []int{14, 15, 0, 1}},
		"a ring":            {binary(), 0, 11, nil},
		"far":               {binary(), 0, 12, nil},
		"behind what's far": {binary(), 0, 5, nil},
		"no root":           {chain(), 16, 1, nil},
		"no destination":    {chain(), 0, -1, nil},
	} {
		got, is := walk.Path(c.t, c.root, c.j)
		if !slices.Equal(got, c.want) || is != (c.want != nil) {
			t.Errorf("%s: Path(%v, %d, %d): %v, %v, want %v", what, c.t, c.root, c.j, got, is, c.want)
		}
	}
}

func TestFirstAndHops(t *testing.T) { // P24.3, P24.4
	for what, c := range map[string]struct {
		t           api.Tree
		root, j     int
		first, hops int
	}{
		"the root":          {chain(), 0, 0, -1, 0},
		"one hop":           {chain(), 0, 1, 1, 1},
		"two hops":          {chain(), 0, 2, 1, 2},
		"some hops":         {binary(), 0, 10, 1, 3},
		"all nodes":         {chain(), 0, 15, 1, 15},
		"round":             {round(), 14, 1, 15, 3},
		"by the first node": {round(), 15, 1, 0, 2},
		"a ring":            {binary(), 0, 11, -1, -1},
		"far":               {binary(), 0, 12, -1, -1},
		"the root is far":   {of(map[int]api.Entry{3: entry(2, 0)}), 0, 0, -1, -1},
		"behind a far root": {of(map[int]api.Entry{3: entry(2, 0)}), 0, 3, -1, -1},
		"behind what's far": {binary(), 0, 5, -1, -1},
		"no root":           {chain(), 16, 1, -1, -1},
		"a root below":      {chain(), -1, 0, -1, -1},
		"no destination":    {chain(), 0, -1, -1, -1},
		"a destination out": {chain(), 0, 16, -1, -1},
		"none of both":      {chain(), math.MinInt, math.MinInt, -1, -1},
	} {
		if got := walk.First(c.t, c.root, c.j); got != c.first {
			t.Errorf("%s: First(%v, %d, %d): %d, want %d", what, c.t, c.root, c.j, got, c.first)
		}
		if got := walk.Hops(c.t, c.root, c.j); got != c.hops {
			t.Errorf("%s: Hops(%v, %d, %d): %d, want %d", what, c.t, c.root, c.j, got, c.hops)
		}
	}
}

func TestFirstAndHopsOfAny(t *testing.T) { // P24.3, P24.4
	for _, a := range anyTrees() {
		for _, root := range numbers() {
			for _, j := range numbers() {
				first, back := -1, []int(nil)
				if back, _ = backOf(a, root, j); len(back) > 1 {
					first = back[len(back)-2]
				}
				if got := walk.First(a, root, j); got != first {
					t.Fatalf("First(%v, %d, %d): %d, want %d", a, root, j, got, first)
				}
				if got, want := walk.Hops(a, root, j), hopsOf(a, root, j); got != want {
					t.Fatalf("Hops(%v, %d, %d): %d, want %d", a, root, j, got, want)
				}
			}
		}
	}
}

func TestChildren(t *testing.T) { // P24.5
	for what, c := range map[string]struct {
		t    api.Tree
		n    int
		want []int
	}{
		"two, one of them far":    {binary(), 0, []int{1}},
		"two":                     {binary(), 1, []int{3, 4}},
		"none, of a leaf":         {binary(), 8, nil},
		"of what is far":          {binary(), 2, []int{5, 6}},
		"not itself":              {binary(), 15, nil},
		"not itself, but others":  {preds(-1, 1, 1, 1), 1, []int{2, 3}},
		"in a ring":               {binary(), 14, []int{13}},
		"all others":              {api.Tree{}, 0, []int{1, 2, 3, 4, 5, 6, 7, 8, 9, 10, 11, 12, 13, 14, 15}},
		"the last of the round":   {round(), 15, []int{0}},
		"none is none":            {of(nil), 3, nil},
		"who stands for nobody":   {preds(-1, -1, 0, 16), -1, nil},
		"behind the last":         {preds(-1, -1, 0, 16), 16, nil},
		"at the lowest int":       {preds(-1, math.MinInt), math.MinInt, nil},
		"at the highest int":      {preds(-1, math.MaxInt), math.MaxInt, nil},
		"in the lowest bits":      {preds(-1, 1<<32+1), 1, nil},
		"in the lowest bits, too": {preds(-1, 1, 1), 1<<32 + 1, nil},
	} {
		if got := walk.Children(c.t, c.n); got != setOf(c.want) {
			t.Errorf("%s: Children(%v, %d): %d, want %v", what, c.t, c.n, got, c.want)
		}
	}
	for _, a := range anyTrees() {
		for _, n := range numbers() {
			if got, want := walk.Children(a, n), childrenOf(a, n); got != setOf(want) {
				t.Fatalf("Children(%v, %d): %d, want %v", a, n, got, want)
			}
		}
	}
}

func TestBelow(t *testing.T) { // P24.6
	for what, c := range map[string]struct {
		t       api.Tree
		root, n int
		want    []int
	}{
		"the root":            {binary(), 0, 0, []int{0, 1, 3, 4, 7, 8, 10}},
		"one within":          {binary(), 0, 1, []int{1, 3, 4, 7, 8, 10}},
		"a leaf":              {binary(), 0, 7, []int{7}},
		"far":                 {binary(), 0, 2, nil},
		"behind what is far":  {binary(), 0, 5, nil},
		"in a ring":           {binary(), 0, 13, nil},
		"a ring to the root":  {binary(), 13, 14, []int{14}},
		"a ring of the root":  {binary(), 13, 13, []int{11, 13, 14}},
		"all nodes":           {chain(), 0, 0, []int{0, 1, 2, 3, 4, 5, 6, 7, 8, 9, 10, 11, 12, 13, 14, 15}},
		"the end of all":      {chain(), 0, 15, []int{15}},
		"ahead of the root":   {chain(), 5, 4, nil},
		"what is no node":     {chain(), 0, -1, nil},
		"behind the last":     {chain(), 0, 16, nil},
		"of no root":          {chain(), 16, 3, nil},
		"of no root, below":   {chain(), -1, 0, nil},
		"none of both":        {chain(), -1, -1, nil},
		"the root is far":     {of(map[int]api.Entry{3: entry(2, 0)}), 0, 3, nil},
		"in the lowest bits":  {chain(), 0, 1<<32 + 1, nil},
		"in the highest bits": {chain(), math.MinInt, 0, nil},
	} {
		if got := walk.Below(c.t, c.root, c.n); got != setOf(c.want) {
			t.Errorf("%s: Below(%v, %d, %d): %d, want %v", what, c.t, c.root, c.n, got, c.want)
		}
	}
	for _, a := range anyTrees() {
		for _, root := range numbers() {
			for _, n := range numbers() {
				if got, want := walk.Below(a, root, n), belowOf(a, root, n); got != setOf(want) {
					t.Fatalf("Below(%v, %d, %d): %d, want %v", a, root, n, got, want)
				}
			}
		}
	}
}

func TestMeet(t *testing.T) { // P24.7
	for what, c := range map[string]struct {
		t          api.Tree
		root, a, b int
		want       int
	}{
		"at the root":           {preds(-1, 0, 0), 0, 1, 2, 0},
		"within":                {binary(), 0, 7, 10, 1},
		"one below the other":   {binary(), 0, 10, 4, 4},
		"one above the other":   {binary(), 0, 4, 10, 4},
		"one is the root":       {binary(), 0, 0, 10, 0},
		"both are the root":     {binary(), 0, 0, 0, 0},
		"the same":              {binary(), 0, 10, 10, 10},
		"the first of many":     {chain(), 0, 15, 14, 14},
		"none, of a":            {binary(), 0, 5, 10, -1},
		"none, of b":            {binary(), 0, 10, 5, -1},
		"none of both":          {binary(), 0, 5, 6, -1},
		"none, the same":        {binary(), 0, 5, 5, -1},
		"a is far":              {binary(), 0, 12, 10, -1},
		"b is no node":          {binary(), 0, 10, 16, -1},
		"a is no node":          {binary(), 0, -1, 10, -1},
		"the root is no node":   {binary(), 16, 10, 10, -1},
		"both in one ring":      {binary(), 0, 11, 13, -1},
		"the root in the ring":  {binary(), 14, 11, 13, 13},
		"on ways that go on":    {chain(), 9, 12, 11, 11},
		"ahead of the root":     {chain(), 9, 12, 8, -1},
		"all three are no node": {chain(), -1, -1, -1, -1},
	} {
		if got := walk.Meet(c.t, c.root, c.a, c.b); got != c.want {
			t.Errorf("%s: Meet(%v, %d, %d, %d): %d, want %d", what, c.t, c.root, c.a, c.b, got, c.want)
		}
	}
	l := numbers()
	r := rand.New(rand.NewSource(7))
	for _, tr := range anyTrees() {
		for _, root := range l {
			for range 60 {
				a, b := l[r.Intn(len(l))], l[r.Intn(len(l))]
				if got, want := walk.Meet(tr, root, a, b), meetOf(tr, root, a, b); got != want {
					t.Fatalf("Meet(%v, %d, %d, %d): %d, want %d", tr, root, a, b, got, want)
				}
			}
		}
	}
}

func TestOrder(t *testing.T) { // P24.8
	for what, c := range map[string]struct {
		t    api.Tree
		root int
		want []int
	}{
		"the root alone":           {tree.New(7), 7, []int{7}},
		"a chain":                  {chain(), 0, []int{0, 1, 2, 3, 4, 5, 6, 7, 8, 9, 10, 11, 12, 13, 14, 15}},
		"a root within":            {chain(), 12, []int{12, 13, 14, 15}},
		"round":                    {round(), 13, []int{13, 14, 15, 0, 1, 2, 3, 4, 5, 6, 7, 8, 9, 10, 11, 12}},
		"by hops":                  {binary(), 0, []int{0, 1, 3, 4, 7, 8, 10}},
		"by whom they come":        {preds(-1, 2, 0, 0, 2, 3, 3), 0, []int{0, 2, 3, 1, 4, 5, 6}},
		"falling by whom":          {preds(-1, 4, 4, 2, 0, 1), 0, []int{0, 4, 1, 2, 5, 3}},
		"one by one, not by nodes": {preds(-1, 3, 4, 0, 0), 0, []int{0, 3, 4, 1, 2}},
		"later ones lower":         {preds(1, 3, 1, -1, 3), 3, []int{3, 1, 4, 0, 2}},
		"the root ahead of itself": {api.Tree{}, 0, []int{0, 1, 2, 3, 4, 5, 6, 7, 8, 9, 10, 11, 12, 13, 14, 15}},
		"the root in a ring":       {binary(), 14, []int{14, 13, 11}},
		"the root hangs on two":    {preds(2, 0, 1), 0, []int{0, 1, 2}},
		"none of a far root":       {binary(), 2, nil},
		"none of no root":          {chain(), 16, nil},
		"none of nobody":           {preds(-1, -1), -1, nil},
		"none of the lowest int":   {preds(-1, math.MinInt), math.MinInt, nil},
	} {
		if got := walk.Order(c.t, c.root); !slices.Equal(got, c.want) {
			t.Errorf("%s: Order(%v, %d): %v, want %v", what, c.t, c.root, got, c.want)
		}
	}
	for _, a := range anyTrees() {
		for _, root := range numbers() {
			if got, want := walk.Order(a, root), orderOf(a, root); !slices.Equal(got, want) {
				t.Fatalf("Order(%v, %d): %v, want %v", a, root, got, want)
			}
		}
	}
}

func TestLeaves(t *testing.T) { // P24.9
	for what, c := range map[string]struct {
		t    api.Tree
		root int
		want []int
	}{
		"the root alone":      {tree.New(7), 7, []int{7}},
		"the end of a chain":  {chain(), 0, []int{15}},
		"the end of a round":  {round(), 13, []int{12}},
		"some":                {binary(), 0, []int{7, 8, 10}},
		"in a ring":           {binary(), 14, []int{11}},
		"all but the root":    {api.Tree{}, 0, []int{1, 2, 3, 4, 5, 6, 7, 8, 9, 10, 11, 12, 13, 14, 15}},
		"a root behind all":   {chain(), 15, []int{15}},
		"ahead of itself":     {binary(), 15, []int{15}},
		"none of a far root":  {binary(), 2, nil},
		"none of no root":     {chain(), 16, nil},
		"none of nobody":      {preds(-1, -1), -1, nil},
		"far ones don't hang": {of(map[int]api.Entry{0: entry(0, -1), 1: entry(4, 0), 2: entry(far, 1)}), 0, []int{1}},
	} {
		if got := walk.Leaves(c.t, c.root); got != setOf(c.want) {
			t.Errorf("%s: Leaves(%v, %d): %d, want %v", what, c.t, c.root, got, c.want)
		}
	}
	for _, a := range anyTrees() {
		for _, root := range numbers() {
			if got, want := walk.Leaves(a, root), leavesOf(a, root); got != want {
				t.Fatalf("Leaves(%v, %d): %d, want %d", a, root, got, want)
			}
		}
	}
}

// isOnce looks whether the way is one of a tree, from j to the root: no node twice, and each one's Pred behind it.
func isOnce(t *testing.T, a api.Tree, root, j int, way []int) {
	t.Helper()
	set := 0
	for i, n := range way {
		if !isNode(n) || nodes.Has(set, n) || a[n].Dist == far || i > 0 && a[way[i-1]].Pred != n {
			t.Fatalf("%v from %d to %d: %v", a, j, root, way)
		}
		set = nodes.With(set, n)
	}
	if len(way) < 1 || len(way) > 16 || way[0] != j || way[len(way)-1] != root {
		t.Fatalf("%v from %d to %d: %v", a, j, root, way)
	}
}

func TestNobodyTwice(t *testing.T) { // P24.10
	longest := 0
	for _, a := range anyTrees() {
		for root := range 16 {
			for j := range 16 {
				if way, is := walk.Back(a, root, j); is {
					isOnce(t, a, root, j, way)
					longest = max(longest, len(way))
				}
				if way, is := walk.Path(a, root, j); is {
					slices.Reverse(way)
					isOnce(t, a, root, j, way)
				}
			}
		}
	}
	if longest != 16 {
		t.Errorf("the longest way has %d nodes", longest)
	}
}

// isOrder looks whether Order has all to which there is a way, each once, and each behind the one from whom it comes.
func isOrder(t *testing.T, a api.Tree, root int) {
	t.Helper()
	ways := 0
	for j := range 16 {
		if _, is := walk.Back(a, root, j); is {
			ways = nodes.With(ways, j)
		}
	}
	order, set := walk.Order(a, root), 0
	for _, j := range order {
		if nodes.Has(set, j) || j != root && !nodes.Has(set, a[j].Pred) {
			t.Fatalf("Order(%v, %d): %v: %d is there too early, or twice", a, root, order, j)
		}
		set = nodes.With(set, j)
	}
	if set != ways || len(order) != nodes.Count(ways) {
		t.Fatalf("Order(%v, %d): %v, want the nodes %s", a, root, order, nodes.Text(ways))
	}
}

func TestOrderHasAll(t *testing.T) { // P24.11
	for _, a := range anyTrees() {
		for _, root := range numbers() {
			isOrder(t, a, root)
		}
	}
	r := rand.New(rand.NewSource(11))
	for range 300 {
		root := r.Intn(16)
		a := grown(r, root)
		isOrder(t, a, root)
		if order := walk.Order(a, root); setOf(order) != tree.Reached(a) || walk.Below(a, root, root) != tree.Reached(a) {
			t.Fatalf("Order(%v, %d): %v, want %s", a, root, order, nodes.Text(tree.Reached(a)))
		}
	}
}

func TestNothingIsChanged(t *testing.T) { // R3
	for _, a := range anyTrees() {
		was := a
		walk.Back(a, 3, 5)
		walk.Path(a, 3, 5)
		walk.First(a, 3, 5)
		walk.Hops(a, 3, 5)
		walk.Children(a, 3)
		walk.Below(a, 3, 5)
		walk.Meet(a, 3, 5, 6)
		walk.Order(a, 3)
		walk.Leaves(a, 3)
		if a != was {
			t.Fatalf("%v was changed: %v", was, a)
		}
	}
}

func TestMemoryOfItsOwn(t *testing.T) { // R3
	a := binary()
	for range 3 {
		back, _ := walk.Back(a, 0, 10)
		path, _ := walk.Path(a, 0, 10)
		order := walk.Order(a, 0)
		if fmt.Sprint(back, path, order) != "[10 4 1 0] [0 1 4 10] [0 1 3 4 7 8 10]" {
			t.Fatalf("%v, %v, %v: they hang on what was answered before", back, path, order)
		}
		for _, l := range [][]int{back, path, order} {
			l = l[:cap(l)]
			for i := range l {
				l[i] = 77
			}
		}
	}
}

func TestOneAnswer(t *testing.T) { // R4
	for _, a := range anyTrees() {
		for root := range 16 {
			first := fmt.Sprint(walk.Order(a, root), walk.Leaves(a, root), walk.Below(a, root, 5))
			for range 3 {
				if again := fmt.Sprint(walk.Order(a, root), walk.Leaves(a, root), walk.Below(a, root, 5)); again != first {
					t.Fatalf("%v from %d: %s, then %s", a, root, first, again)
				}
			}
		}
	}
}

// FuzzWalk holds what the calls say of any trees and numbers against the chapter's words (R1, P24.1 to P24.11).
func FuzzWalk(f *testing.F) {
	for _, n := range noNodes {
		f.Add(n, 1, n, 3, int64(n))
		f.Add(2, n, n, n, int64(-n))
	}
	f.Fuzz(func(t *testing.T, root, j, a, b int, seed int64) {
		r := rand.New(rand.NewSource(seed))
		for _, tr := range []api.Tree{wild(r), bent(r, root&15), grown(r, root&15)} {
			for _, root := range []int{root, root & 15} {
				isOrder(t, tr, root)
				want, isWant := backOf(tr, root, j&15)
				if got, is := walk.Back(tr, root, j&15); !slices.Equal(got, want) || is != isWant {
					t.Fatalf("Back(%v, %d, %d): %v, want %v", tr, root, j&15, got, want)
				}
				if _, is := walk.Path(tr, root, j); is && !isNode(j) {
					t.Fatalf("Path(%v, %d, %d): %v", tr, root, j, is)
				}
				if got, want := walk.Meet(tr, root, a&15, b&15), meetOf(tr, root, a&15, b&15); got != want {
					t.Fatalf("Meet(%v, %d, %d, %d): %d, want %d", tr, root, a&15, b&15, got, want)
				}
				if got, want := walk.Meet(tr, root, a, b), meetOf(tr, root, a, b); got != want {
					t.Fatalf("Meet(%v, %d, %d, %d): %d, want %d", tr, root, a, b, got, want)
				}
				if got, want := walk.Leaves(tr, root), leavesOf(tr, root); got != want {
					t.Fatalf("Leaves(%v, %d): %d, want %d", tr, root, got, want)
				}
				if got, want := walk.Children(tr, a), childrenOf(tr, a); got != setOf(want) {
					t.Fatalf("Children(%v, %d): %d, want %v", tr, a, got, want)
				}
			}
		}
	})
}
