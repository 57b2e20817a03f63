package gauge_test

import (
	"math"
	"math/big"
	"math/rand"
	"slices"
	"strconv"
	"testing"

	"fingerpost/api"
	"fingerpost/gauge"
)

var (
	nan  = math.NaN()
	up   = math.Inf(1)
	down = math.Inf(-1)
	zero = math.Copysign(0, -1) // the negative one

	tiny     = math.SmallestNonzeroFloat64
	under1   = math.Nextafter(1, 0)
	over1    = math.Nextafter(1, 2)
	underAll = math.Nextafter(1e9, 0)
	overAll  = math.Nextafter(1e9, 2e9)
)

// nans are NaNs of different bits, of both signs.
var nans = []float64{
	nan, -nan,
	math.Float64frombits(0x7ff8000000000000), math.Float64frombits(0xfff8000000000000),
	math.Float64frombits(0x7ff8000000000007), math.Float64frombits(0xffffffffffffffff),
	math.Float64frombits(0x7fffffffffffffff), math.Float64frombits(0xfff8000000000123),
}

// ranked is numbers, each of them with none between it and the next that a call would take otherwise; they rise, negative zero ahead of zero.
var ranked = []float64{
	down, -math.MaxFloat64, -1e9, -65536, -2, -1, -tiny, zero, 0, tiny, 0x1p-1022, 0.5, under1, 1, over1,
	1.5, 2, 2.9, 3, 65535, 65535.99, 65536, 65537, underAll, 1e9, overAll, 1 << 31, 1 << 32, 1 << 33,
	1 << 63, 1 << 64, 1e300, math.MaxFloat64, up,
}

// measured is those of ranked that are Fine.
var measured = []float64{
	0, tiny, 0x1p-1022, 0.5, under1, 1, over1, 1.5, 2, 2.9, 3, 65535, 65535.99, 65536, 65537, underAll, 1e9 - 1, 1e9,
}

// none is what is not Fine.
var none = append([]float64{zero, -tiny, -0.5, -1, -1e9, -math.MaxFloat64, down, overAll, 1e9 + 1, 1 << 32, math.MaxFloat64, up}, nans...)

// sameBits tells whether two floats are one, to the last bit.
func sameBits(a, b float64) bool {
	return math.Float64bits(a) == math.Float64bits(b)
}

// equal tells whether two lists are one, to the last bit.
func equal(a, b []float64) bool {
	return slices.EqualFunc(a, b, sameBits)
}

// show writes a float so that no two numbers look alike.
func show(x float64) string {
	return strconv.FormatFloat(x, 'g', -1, 64)
}

// someLists are lists of all kinds of floats, by chance, of up to so many.
func someLists(seed int64, most int) [][]float64 {
	r := rand.New(rand.NewSource(seed))
	l := [][]float64{nil, {}}
	for range 400 {
		one := make([]float64, r.Intn(most+1))
		for i := range one {
			one[i] = anyFloat(r)
		}
		l = append(l, one)
	}
	return l
}

// anyFloat is some float, that often comes twice, or is Fine.
func anyFloat(r *rand.Rand) float64 {
	switch r.Intn(6) {
	case 0:
		return nans[r.Intn(len(nans))]
	case 1:
		return ranked[r.Intn(len(ranked))]
	case 2:
		return float64(r.Intn(4))
	case 3:
		return math.Float64frombits(r.Uint64())
	case 4:
		return float64(r.Intn(1<<16)) / 8
	}
	return r.Float64() * 1e9
}

// fineOf is those of a list that were measured: no NaN, no infinity, nothing with a sign, nothing above 10^9.
func fineOf(l []float64) []float64 {
	var out []float64
	for _, x := range l {
		// The bits of what has no sign rise with it.
		if math.Float64bits(x) <= math.Float64bits(1e9) {
			out = append(out, x)
		}
	}
	return out
}

func TestFine(t *testing.T) { // P4.1
	for _, x := range measured {
		if !gauge.Fine(x) {
			t.Errorf("Fine(%s): false", show(x))
		}
	}
	for _, x := range none {
		if gauge.Fine(x) {
			t.Errorf("Fine(%s), bits %#x: true", show(x), math.Float64bits(x))
		}
	}
	for _, l := range someLists(1, 50) {
		for _, x := range l {
			if got, want := gauge.Fine(x), len(fineOf([]float64{x})) == 1; got != want {
				t.Errorf("Fine(%s): %t", show(x), got)
			}
		}
	}
}

func TestSmooth(t *testing.T) { // P4.2
	for _, c := range []struct {
		old, sample float64
		eighths     int
		want        float64
		err         api.Errno
	}{
		{8, 16, 0, 8, api.OK},
		{8, 16, 1, 9, api.OK},
		{8, 16, 2, 10, api.OK},
		{8, 16, 3, 11, api.OK},
		{8, 16, 4, 12, api.OK},
		{8, 16, 5, 13, api.OK},
		{8, 16, 6, 14, api.OK},
		{8, 16, 7, 15, api.OK},
		{8, 16, 8, 16, api.OK},
		{16, 8, 1, 15, api.OK},
		{16, 8, 7, 9, api.OK},
		{1, 2, 1, 1.125, api.OK},
		{0, 0, 4, 0, api.OK},
		{0, 1, 8, 1, api.OK},
		{0, 1, 0, 0, api.OK},
		{1e9, 0, 0, 1e9, api.OK},
		{0, 1e9, 8, 1e9, api.OK},
		{1e9, 1e9, 3, 1e9, api.OK},
		{1e9, 0, 4, 5e8, api.OK},
		// The half of the least number is rounded away, twice.
		{tiny, tiny, 4, 0, api.OK},
		{3 * tiny, 3 * tiny, 4, 4 * tiny, api.OK},
		// What is not Fine as old is no matter.
		{-1, 5, 4, 5, api.OK},
		{zero, 5, 4, 5, api.OK},
		{zero, 0, 0, 0, api.OK},
		{nan, 5, 0, 5, api.OK},
		{up, 5, 1, 5, api.OK},
		{down, 5, 8, 5, api.OK},
		{overAll, 5, 0, 5, api.OK},
		{-tiny, 1e9, 0, 1e9, api.OK},
		{8, 16, -1, 0, api.ErrArg},
		{8, 16, 9, 0, api.ErrArg},
		{8, 16, math.MinInt, 0, api.ErrArg},
		{8, 16, math.MaxInt, 0, api.ErrArg},
		{nan, 16, 9, 0, api.ErrArg},
		{8, -1, 4, 0, api.ErrForm},
		{8, -1, 0, 0, api.ErrForm},
		{nan, nan, 4, 0, api.ErrForm},
		// Both are wrong: the number of eighths comes first.
		{8, nan, -1, 0, api.ErrArg},
		{8, -1, 9, 0, api.ErrArg},
		{up, down, 9, 0, api.ErrArg},
	} {
		got, err := gauge.Smooth(c.old, c.sample, c.eighths)
		if !sameBits(got, c.want) || err != c.err {
			t.Errorf("Smooth(%s, %s, %d): %s, %d, want %s, %d", show(c.old), show(c.sample), c.eighths, show(got), err, show(c.want), c.err)
		}
	}
}

func TestSmoothOfNone(t *testing.T) { // P4.2
	for _, bad := range none {
		for eighths := -2; eighths < 11; eighths++ {
			for _, fine := range measured {
				wantErr, want := api.OK, fine
				if eighths < 0 || eighths > 8 {
					wantErr, want = api.ErrArg, 0
				}
				if got, err := gauge.Smooth(bad, fine, eighths); !sameBits(got, want) || err != wantErr {
					t.Errorf("Smooth(%s, %s, %d): %s, %d", show(bad), show(fine), eighths, show(got), err)
				}
				if wantErr == api.OK {
					wantErr = api.ErrForm
				}
				for _, old := range []float64{fine, bad} {
					if got, err := gauge.Smooth(old, bad, eighths); !sameBits(got, 0) || err != wantErr {
						t.Errorf("Smooth(%s, %s, %d): %s, %d", show(old), show(bad), eighths, show(got), err)
					}
				}
			}
		}
	}
}

// rounded is the product of x and so many eighths, made whole and then rounded once.
func rounded(x float64, eighths int) float64 {
	exact := new(big.Float).SetPrec(200).SetFloat64(x)
	exact.Mul(exact, big.NewFloat(float64(eighths)/8))
	out, _ := exact.Float64()
	return out
}

func TestSmoothRounds(t *testing.T) { // P4.2
	r := rand.New(rand.NewSource(2))
	fused, once := 0, 0
	for range 20000 {
		old, sample, eighths := r.Float64()*1e9, r.Float64()*1e9, r.Intn(9)
		if r.Intn(2) == 0 {
			old, sample = math.Floor(old)/1e3, r.ExpFloat64()
		}
		part := float64(eighths) / 8
		want := rounded(old, 8-eighths) + rounded(sample, eighths)
		if got, err := gauge.Smooth(old, sample, eighths); !sameBits(got, want) || err != api.OK {
			t.Fatalf("Smooth(%s, %s, %d): %s, %d, want %s", show(old), show(sample), eighths, show(got), err, show(want))
		}
		if math.FMA(old, 1-part, rounded(sample, eighths)) != want || math.FMA(sample, part, rounded(old, 8-eighths)) != want {
			fused++
		}
		if old+rounded(sample-old, eighths) != want {
			once++
		}
	}
	// Were there none of these, the test could not tell such a sum from the promised one.
	if fused == 0 || once == 0 {
		t.Errorf("%d sums that differ if a product is not rounded, %d if it is one product", fused, once)
	}
}

func TestCost(t *testing.T) { // P4.3
	for _, c := range []struct {
		x    float64
		want uint32
	}{
		{2.9, 2},
		{down, 1},
		{-math.MaxFloat64, 1},
		{-1 << 32, 1},
		{-65536, 1},
		{-2, 1},
		{-1, 1},
		{-0.5, 1},
		{-tiny, 1},
		{zero, 1},
		{0, 1},
		{tiny, 1},
		{0.5, 1},
		{under1, 1},
		{1, 1},
		{over1, 1},
		{1.5, 1},
		{math.Nextafter(2, 0), 1},
		{2, 2},
		{2.5, 2},
		{3, 3},
		{3.5, 3},
		{65534.5, 65534},
		{65535, 65535},
		{65535.5, 65535},
		{math.Nextafter(65536, 0), 65535},
		{65536, 65536},
		{math.Nextafter(65536, 65537), 65536},
		{65537, 65536},
		{1e9, 65536},
		{overAll, 65536},
		{1<<32 - 1, 65536},
		{1 << 32, 65536},
		{1<<32 + 5, 65536},
		{1 << 63, 65536},
		{1 << 64, 65536},
		{math.MaxFloat64, 65536},
		{up, api.Far},
	} {
		if got := gauge.Cost(c.x); got != c.want {
			t.Errorf("Cost(%s): %d, want %d", show(c.x), got, c.want)
		}
	}
	for _, x := range nans {
		if got := gauge.Cost(x); got != api.Far {
			t.Errorf("Cost of a NaN, bits %#x: %d", math.Float64bits(x), got)
		}
	}
	for n := uint32(1); n < 65536; n++ {
		x := float64(n)
		if gauge.Cost(x) != n || gauge.Cost(x+0.5) != n || gauge.Cost(math.Nextafter(x+1, 0)) != n {
			t.Fatalf("Cost(%d), and of what is above it by less than 1: %d, %d, %d", n, gauge.Cost(x), gauge.Cost(x+0.5), gauge.Cost(math.Nextafter(x+1, 0)))
		}
	}
}

func TestOrder(t *testing.T) { // P4.4
	all := append(slices.Clone(ranked), nans...)
	place := func(i int) int { return min(i, len(ranked)) }
	for i, a := range all {
		for j, b := range all {
			want := 0
			if place(i) < place(j) {
				want = -1
			}
			if place(i) > place(j) {
				want = 1
			}
			if got := gauge.Order(a, b); got != want {
				t.Errorf("Order(%s, %s): %d, want %d", show(a), show(b), got, want)
			}
		}
	}
}

// spread is the least and greatest of a list that rises, or the infinities of an empty one.
func spread(l []float64) (float64, float64) {
	if len(l) == 0 {
		return up, down
	}
	return l[0], l[len(l)-1]
}

func TestSpread(t *testing.T) { // P4.5
	for _, c := range []struct {
		l         []float64
		low, high float64
		n         int
	}{
		{nil, up, down, 0},
		{[]float64{}, up, down, 0},
		{none, up, down, 0},
		{nans, up, down, 0},
		{[]float64{zero}, up, down, 0},
		{[]float64{0}, 0, 0, 1},
		{[]float64{zero, 0}, 0, 0, 1},
		{[]float64{0, zero}, 0, 0, 1},
		{[]float64{5}, 5, 5, 1},
		{[]float64{5, 5}, 5, 5, 2},
		{[]float64{3, 1, 2}, 1, 3, 3},
		{[]float64{1, 2, 3}, 1, 3, 3},
		{[]float64{3, 2, 1}, 1, 3, 3},
		{[]float64{-1, 2, 1e9, 7, overAll}, 2, 1e9, 3},
		{[]float64{nan, 2, nan}, 2, 2, 1},
		{[]float64{2, nan, 1}, 1, 2, 2},
		{[]float64{up, 2, down, 4}, 2, 4, 2},
	} {
		low, high, n := gauge.Spread(c.l)
		if !sameBits(low, c.low) || !sameBits(high, c.high) || n != c.n {
			t.Errorf("Spread(%v): %s, %s, %d, want %s, %s, %d", c.l, show(low), show(high), n, show(c.low), show(c.high), c.n)
		}
	}
	for _, l := range someLists(5, 12) {
		fine := fineOf(l)
		slices.Sort(fine)
		wantLow, wantHigh := spread(fine)
		if low, high, n := gauge.Spread(l); !sameBits(low, wantLow) || !sameBits(high, wantHigh) || n != len(fine) {
			t.Errorf("Spread(%v): %s, %s, %d", l, show(low), show(high), n)
		}
	}
}

// rank is a number that rises with the place of x, by its bits alone.
func rank(x float64) int64 {
	b := int64(math.Float64bits(x))
	switch {
	case x != x:
		return math.MaxInt64
	case b < 0:
		return math.MinInt64 - b - 1
	}
	return b
}

// inserted is a list put in order by putting each behind all that are not behind it.
func inserted(l []float64) []float64 {
	var out []float64
	for _, x := range l {
		at := len(out)
		for at > 0 && rank(out[at-1]) > rank(x) {
			at--
		}
		out = slices.Insert(out, at, x)
	}
	return out
}

func TestSorted(t *testing.T) { // P4.6
	for _, c := range []struct{ l, want []float64 }{
		{nil, nil},
		{[]float64{}, nil},
		{[]float64{7}, []float64{7}},
		{[]float64{3, 1, 2}, []float64{1, 2, 3}},
		{[]float64{2, 1, 2, 1}, []float64{1, 1, 2, 2}},
		{[]float64{0, zero, 0, zero}, []float64{zero, zero, 0, 0}},
		{[]float64{nan, up, 1, down}, []float64{down, 1, up, nan}},
		{[]float64{nans[5], 1, nans[2], 0, nans[4]}, []float64{0, 1, nans[5], nans[2], nans[4]}},
		{nans, nans},
	} {
		if got := gauge.Sorted(c.l); !equal(got, c.want) {
			t.Errorf("Sorted(%v): %v, want %v", c.l, got, c.want)
		}
	}
	for _, most := range []int{8, 60, 700} { // short ones and long ones may be sorted otherwise
		for _, l := range someLists(6, most) {
			if got, want := gauge.Sorted(l), inserted(l); !equal(got, want) {
				t.Fatalf("Sorted(%v): %v, want %v", l, got, want)
			}
		}
	}
}

func TestMiddle(t *testing.T) { // P4.7
	for _, c := range []struct {
		l    []float64
		want float64
		ok   bool
	}{
		{nil, 0, false},
		{[]float64{}, 0, false},
		{none, 0, false},
		{nans, 0, false},
		{[]float64{zero}, 0, false},
		{[]float64{0}, 0, true},
		{[]float64{zero, 0}, 0, true},
		{[]float64{5}, 5, true},
		{[]float64{5, 3}, 3, true},
		{[]float64{3, 5}, 3, true},
		{[]float64{5, 1, 3}, 3, true},
		{[]float64{7, 1, 5, 3}, 3, true},
		{[]float64{9, 7, 5, 3, 1}, 5, true},
		{[]float64{9, 1, nan, 5, 7}, 5, true},
		{[]float64{-1, -2, -3, 4, 6}, 4, true},
		{[]float64{up, overAll, 2, 1, 3}, 2, true},
		{[]float64{1e9, 1e9, 0}, 1e9, true},
	} {
		if got, ok := gauge.Middle(c.l); !sameBits(got, c.want) || ok != c.ok {
			t.Errorf("Middle(%v): %s, %t, want %s, %t", c.l, show(got), ok, show(c.want), c.ok)
		}
	}
	for _, l := range someLists(7, 12) {
		want, fine := 0.0, fineOf(l)
		slices.Sort(fine)
		if n := len(fine); n > 0 {
			want = fine[(n+1)/2-1]
		}
		if got, ok := gauge.Middle(l); !sameBits(got, want) || ok != (len(fine) > 0) {
			t.Errorf("Middle(%v): %s, %t, want %s", l, show(got), ok, show(want))
		}
	}
}

func TestMean(t *testing.T) { // P4.8
	grown := 1e9
	for range 3 {
		grown = math.Nextafter(grown, 2e9)
	}
	step := overAll - 1e9
	for _, c := range []struct {
		l    []float64
		want float64
		ok   bool
	}{
		{nil, 0, false},
		{[]float64{}, 0, false},
		{none, 0, false},
		{nans, 0, false},
		{[]float64{zero}, 0, false},
		{[]float64{0}, 0, true},
		{[]float64{5}, 5, true},
		{[]float64{1, 2}, 1.5, true},
		{[]float64{1, 2, 6, -1}, 3, true},
		{[]float64{nan, 4, up, 8, down, overAll, zero}, 6, true},
		{[]float64{1e9, 1e9, 1e9}, 1e9, true},
		{[]float64{tiny, tiny}, tiny, true},
		{[]float64{tiny, 0}, 0, true},
		{[]float64{1, 0, 0}, 1.0 / 3, true},
		// Less than half a step is lost when it is added to what is great, and is not when it comes ahead of it.
		{[]float64{1e9, step * 3 / 8, step * 3 / 8, step * 3 / 8}, 1e9 / 4, true},
		{[]float64{step * 3 / 8, step * 3 / 8, step * 3 / 8, 1e9}, overAll / 4, true},
		{[]float64{1e9, step * 5 / 8, step * 5 / 8, step * 5 / 8}, grown / 4, true},
	} {
		if got, ok := gauge.Mean(c.l); !sameBits(got, c.want) || ok != c.ok {
			t.Errorf("Mean(%v): %s, %t, want %s, %t", c.l, show(got), ok, show(c.want), c.ok)
		}
	}
}

func TestMeanRounds(t *testing.T) { // P4.8
	for _, l := range someLists(8, 40) {
		want, fine := 0.0, fineOf(l)
		for _, x := range fine {
			exact := new(big.Float).SetPrec(2200).SetFloat64(want)
			want, _ = exact.Add(exact, big.NewFloat(x)).Float64()
		}
		if len(fine) > 0 {
			want /= float64(len(fine))
		}
		if got, ok := gauge.Mean(l); !sameBits(got, want) || ok != (len(fine) > 0) {
			t.Errorf("Mean(%v): %s, %t, want %s", l, show(got), ok, show(want))
		}
	}
}

func TestBins(t *testing.T) { // P4.9
	for _, c := range []struct {
		l, edges []float64
		want     []int
	}{
		{[]float64{0, 1, 5, 9}, []float64{1, 5}, []int{1, 1, 2}},
		{nil, []float64{1, 5}, []int{0, 0, 0}},
		{[]float64{0.5, under1, 1, over1, 5, math.Nextafter(5, 0)}, []float64{1, 5}, []int{2, 3, 1}},
		{[]float64{9, 0, 9, 3, 0, 9}, []float64{1, 5}, []int{2, 1, 3}},
		{[]float64{1, nan, 2, -nan, 3}, []float64{2}, []int{1, 2}},
		{nans, []float64{2}, []int{0, 0}},
		{[]float64{down, -5, zero, 0, 5, up}, []float64{0}, []int{2, 4}},
		{[]float64{down, -5, zero, 0, 5, up}, []float64{zero}, []int{2, 4}},
		{[]float64{down, -5, zero, 0, 5, up}, []float64{-5, tiny}, []int{1, 3, 2}},
		{[]float64{down, -5, 5, up, nan}, []float64{down, up}, []int{0, 3, 1}},
		{[]float64{down, -math.MaxFloat64, math.MaxFloat64, up}, []float64{-math.MaxFloat64, math.MaxFloat64}, []int{1, 1, 2}},
		{[]float64{1, 2, 3, 4, 5, 6, 7}, []float64{1, 2, 3, 4, 5, 6, 7}, []int{0, 1, 1, 1, 1, 1, 1, 1}},
		// All that is a number lies in one bin, if nothing parts it.
		{nil, nil, []int{0}},
		{[]float64{3, nan, down, 4}, nil, []int{3}},
		{[]float64{1, 2}, []float64{nan}, nil},
		{[]float64{1, 2}, []float64{nan, 1}, nil},
		{[]float64{1, 2}, []float64{1, nan}, nil},
		{[]float64{1, 2}, []float64{1, 2, nan}, nil},
		{[]float64{1, 2}, []float64{1, nan, 2}, nil},
		{nil, []float64{2, 2}, nil},
		{nil, []float64{3, 2}, nil},
		{[]float64{1, 2}, []float64{1, 2, 2}, nil},
		{[]float64{1, 2}, []float64{1, 3, 2}, nil},
		{[]float64{1, 2}, []float64{1, 3, 2, 4}, nil},
		{[]float64{1, 2}, []float64{up, up}, nil},
		{[]float64{1, 2}, []float64{up, down}, nil},
		// Zeros are equal, so none of them is above the other one.
		{[]float64{1, 2}, []float64{zero, 0}, nil},
		{[]float64{1, 2}, []float64{0, zero}, nil},
	} {
		if got := gauge.Bins(c.l, c.edges...); !slices.Equal(got, c.want) {
			t.Errorf("Bins(%v, %v): %d, want %d", c.l, c.edges, got, c.want)
		}
	}
}

// binned is the bins of a list, each of them counted by itself, of edges that rise.
func binned(l, edges []float64) []int {
	var bins []int
	for i := range len(edges) + 1 {
		n := 0
		for _, x := range l {
			if x == x && (i == 0 || edges[i-1] <= x) && (i == len(edges) || x < edges[i]) {
				n++
			}
		}
		bins = append(bins, n)
	}
	return bins
}

func TestBinsOfAny(t *testing.T) { // P4.9
	edges := append([][]float64{ranked[:8], ranked[8:], {1, 2, 3}}, someLists(10, 4)...)
	for i, l := range someLists(9, 60) {
		for _, e := range append(edges[:3:3], edges[3+i%(len(edges)-3)]) {
			want := binned(l, e)
			for j, x := range e {
				if x != x || j > 0 && !(x > e[j-1]) {
					want = nil
				}
			}
			if got := gauge.Bins(l, e...); !slices.Equal(got, want) {
				t.Errorf("Bins(%v, %v): %d, want %d", l, e, got, want)
			}
		}
	}
}

func TestOrderIsAnOrder(t *testing.T) { // P4.10
	all := append(slices.Clone(ranked), nans...)
	for _, a := range all {
		for _, b := range all {
			ab := gauge.Order(a, b)
			if ab < -1 || ab > 1 || ab != -gauge.Order(b, a) || sameBits(a, b) && ab != 0 {
				t.Errorf("Order(%s, %s): %d, and %d the other way round", show(a), show(b), ab, gauge.Order(b, a))
			}
			if ab == 0 && !sameBits(a, b) && !(a != a && b != b) {
				t.Errorf("Order(%s, %s): one place", show(a), show(b))
			}
			for _, c := range all {
				if ab <= 0 && gauge.Order(b, c) <= 0 && gauge.Order(a, c) != min(ab, gauge.Order(b, c)) {
					t.Errorf("Order(%s, %s): %d, though %s lies between", show(a), show(c), gauge.Order(a, c), show(b))
				}
			}
		}
	}
}

func TestSmoothedIsBetween(t *testing.T) { // P4.11
	r := rand.New(rand.NewSource(11))
	wholes := []float64{0, 1, 2, 3, 7, 8, 9, 255, 256, 32767, 32768, 65534, 65535}
	for range 60 {
		wholes = append(wholes, float64(r.Intn(1<<16)))
	}
	for _, old := range wholes {
		for _, sample := range wholes {
			for eighths := range 9 {
				got, err := gauge.Smooth(old, sample, eighths)
				if err != api.OK || !gauge.Fine(got) || got < min(old, sample) || got > max(old, sample) {
					t.Fatalf("Smooth(%s, %s, %d): %s, %d", show(old), show(sample), eighths, show(got), err)
				}
			}
		}
	}
}

func TestCostNeverFalls(t *testing.T) { // P4.11
	rising := slices.Clone(ranked)
	for n := range 600 {
		rising = append(rising, float64(n)/8, 65500+float64(n)/8, float64(n)*1e7)
	}
	slices.Sort(rising)
	last := uint32(1)
	for _, x := range rising {
		cost := gauge.Cost(x)
		if cost < last {
			t.Fatalf("Cost(%s) is %d, and of less it is %d", show(x), cost, last)
		}
		last = cost
	}
}

func TestSortedHasAll(t *testing.T) { // P4.12
	for _, l := range someLists(12, 300) {
		got := gauge.Sorted(l)
		for i := range got {
			if i > 0 && gauge.Order(got[i-1], got[i]) > 0 {
				t.Fatalf("Sorted(%v) has %s ahead of %s", l, show(got[i-1]), show(got[i]))
			}
		}
		many := map[uint64]int{}
		for _, x := range l {
			many[math.Float64bits(x)]++
		}
		for _, x := range got {
			many[math.Float64bits(x)]--
		}
		for bits, n := range many {
			if n != 0 {
				t.Fatalf("Sorted(%v) has %d too few of the bits %#x", l, n, bits)
			}
		}
	}
}

func TestBinsHaveAll(t *testing.T) { // P4.12
	for _, l := range someLists(13, 300) {
		numbers := len(l)
		for _, x := range l {
			if x != x {
				numbers--
			}
		}
		for _, edges := range [][]float64{nil, {0}, {up}, {down}, {1, 2, 3}, ranked[:8], ranked[8:]} {
			in := 0
			for _, n := range gauge.Bins(l, edges...) {
				in += n
			}
			if in != numbers {
				t.Fatalf("Bins(%v, %v) have %d of %d numbers", l, edges, in, numbers)
			}
		}
	}
}

// run calls everything with the lists, and answers all the lists that come of it.
func run(l, edges []float64) ([]float64, []int) {
	gauge.Spread(l)
	gauge.Middle(l)
	gauge.Mean(l)
	return gauge.Sorted(l), gauge.Bins(l, edges...)
}

func TestArgumentsStay(t *testing.T) { // R3
	room := []float64{3, nans[4], zero, 0, 1, nans[2], 77, 78}
	steps := []float64{1, 2, 99, 98}
	l, edges := room[:6], steps[:2]
	sorted, bins := run(l, edges)
	if !equal(room, []float64{3, nans[4], zero, 0, 1, nans[2], 77, 78}) || !equal(steps, []float64{1, 2, 99, 98}) {
		t.Errorf("what was handed in is now %v, %v", room, steps)
	}
	again, more := run(l, edges)
	clear(again)
	clear(more)
	_ = append(sorted, 5)
	clear(room)
	clear(steps)
	if !equal(sorted, []float64{zero, 0, 1, 3, nans[4], nans[2]}) || !slices.Equal(bins, []int{2, 1, 1}) {
		t.Errorf("what was answered is now %v, %d", sorted, bins)
	}
}

func TestSortedListIsNew(t *testing.T) { // R3
	l := []float64{1, 2, 3}
	clear(gauge.Sorted(l))
	if !equal(l, []float64{1, 2, 3}) {
		t.Errorf("a list that was in order is changed through the answer: %v", l)
	}
}

// FuzzGauge holds what the calls say of any floats against each other (R1, P4.1 to P4.12).
func FuzzGauge(f *testing.F) {
	for _, x := range ranked {
		f.Add(x, 1.0, nan, 4)
	}
	f.Fuzz(func(t *testing.T, a, b, c float64, eighths int) {
		l := []float64{a, b, c, a}
		got, err := gauge.Smooth(a, b, eighths)
		right := eighths >= 0 && eighths <= 8 && gauge.Fine(b)
		if right != (err == api.OK) || right && !gauge.Fine(got) || !right && !sameBits(got, 0) {
			t.Errorf("Smooth(%s, %s, %d): %s, %d", show(a), show(b), eighths, show(got), err)
		}
		if sorted := gauge.Sorted(l); !equal(sorted, inserted(l)) {
			t.Errorf("Sorted(%v): %v", l, sorted)
		}
		if gauge.Order(a, b) < 0 && gauge.Cost(a) > gauge.Cost(b) {
			t.Errorf("Cost(%s) is %d, Cost(%s) is %d", show(a), gauge.Cost(a), show(b), gauge.Cost(b))
		}
		low, high, n := gauge.Spread(l)
		middle, isMiddle := gauge.Middle(l)
		mean, isMean := gauge.Mean(l)
		if n != len(fineOf(l)) || isMiddle != (n > 0) || isMean != isMiddle {
			t.Errorf("%v: %d are Fine, Middle %t, Mean %t", l, n, isMiddle, isMean)
		}
		if n > 0 && (middle < low || middle > high || !gauge.Fine(mean)) {
			t.Errorf("%v: from %s to %s, Middle %s, Mean %s", l, show(low), show(high), show(middle), show(mean))
		}
		if bins := gauge.Bins(l, a, b); a < b && !slices.Equal(bins, binned(l, []float64{a, b})) || !(a < b) && len(bins) > 0 {
			t.Errorf("Bins(%v, %s, %s): %d", l, show(a), show(b), bins)
		}
	})
}
