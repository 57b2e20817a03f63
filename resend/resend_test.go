package resend_test

import (
	"math"
	"math/big"
	"math/rand"
	"slices"
	"strings"
	"testing"

	"fingerpost/api"
	"fingerpost/resend"
)

// edges are numbers at the ends of what the chapter names, and at those of int.
var edges = []int{0, 1, 2, 3, 4, 5, 7, 8, 9, 10, 11, 99, 100, 101, 999, 1000, 1001, 9999, 10000, 10001, 65534, 65535, 65536, 80000, 1 << 30, 1<<31 - 1, 1 << 32, 1<<62 - 1, 1 << 62, 1<<62 + 1, math.MaxInt - 1, math.MaxInt, -1, -2, -7, -8, -9, -10000, -1 << 31, -1 << 62, math.MinInt + 1, math.MinInt}

// rules are rules that are right, with that many ticks till a part is sent again, and that many tries.
func rules(resend, tries int) api.Rules {
	return api.Rules{Hello: 5, Dead: 20, Resend: resend, Tries: tries}
}

// sent is what was sent with that number: it is unlike those of the numbers near it in all its fields.
func sent(seq int) api.Sent {
	return api.Sent{Seq: seq, Bytes: strings.Repeat("part", seq&3) + string(rune('a'+seq&15)), Tries: 1 + seq&3, Left: 1 + seq&7}
}

// list is what was sent with those numbers.
func list(seqs ...int) []api.Sent {
	var l []api.Sent
	for _, seq := range seqs {
		l = append(l, sent(seq))
	}
	return l
}

// states are so many of some tries and ticks that are left, one behind the other.
func states(pairs ...[2]int) []api.Sent {
	var l []api.Sent
	for i, p := range pairs {
		l = append(l, api.Sent{Seq: i, Bytes: string(rune('a' + i)), Tries: p[0], Left: p[1]})
	}
	return l
}

// alike tells by the fields whether a and b have the same, in order.
func alike(a, b []api.Sent) bool {
	if len(a) != len(b) {
		return false
	}
	for i := range a {
		if a[i].Seq != b[i].Seq || a[i].Bytes != b[i].Bytes || a[i].Tries != b[i].Tries || a[i].Left != b[i].Left {
			return false
		}
	}
	return true
}

// isRight is Right by the chapter's words.
func isRight(r api.Rules) bool {
	if r.Hello < 1 || r.Hello > 100 || r.Dead <= r.Hello || r.Dead > 1000 {
		return false
	}
	return 1 <= r.Resend && r.Resend <= 100 && 1 <= r.Tries && r.Tries <= 10
}

// addOf is Add by the chapter's words.
func addOf(l []api.Sent, seq int, bytes string, r api.Rules) ([]api.Sent, api.Errno) {
	if seq < 0 || seq > 65535 || r.Resend < 1 {
		return l, api.ErrArg
	}
	if len(l) >= 8 {
		return l, api.ErrFull
	}
	for _, s := range l {
		if s.Seq == seq || s.Seq > seq {
			return l, api.ErrThere
		}
	}
	var all []api.Sent
	for _, s := range l {
		all = append(all, s)
	}
	return append(all, api.Sent{Seq: seq, Bytes: bytes, Tries: 1, Left: r.Resend}), api.OK
}

// came tells by chapter 9's words whether a says that seq came.
func came(a api.Ack, seq int) bool {
	if seq < a.Next {
		return true
	}
	for i := range 8 {
		if a.Next >= 0 && seq <= 65535 && seq == a.Next+i {
			return a.Bits>>i&1 == 1
		}
	}
	return false
}

// ackedOf is Acked by the chapter's words.
func ackedOf(l []api.Sent, a api.Ack) ([]api.Sent, int) {
	var kept []api.Sent
	many := 0
	for _, s := range l {
		if came(a, s.Seq) {
			many++
		} else {
			kept = append(kept, s)
		}
	}
	return kept, many
}

// tickOf is Tick by the chapter's words.
func tickOf(l []api.Sent, r api.Rules) ([]api.Sent, []string, bool) {
	var all []api.Sent
	var again []string
	dead := false
	for _, s := range l {
		if s.Left > 1 {
			s.Left = s.Left - 1
		} else if s.Tries >= r.Tries {
			dead = true
		} else {
			s.Tries = s.Tries + 1
			s.Left = r.Resend
			again = append(again, s.Bytes)
		}
		all = append(all, s)
	}
	return all, again, dead
}

// number is n as one that no sum leaves.
func number(n int) *big.Int {
	return big.NewInt(int64(n))
}

// sampleOf is Sample by the chapter's words, in numbers that no sum leaves.
func sampleOf(e api.Estimate, ticks int) (bool, *big.Int, *big.Int) {
	if ticks < 0 {
		ticks = 0
	}
	if ticks > 10000 {
		ticks = 10000
	}
	n := number(ticks)
	if !e.Known {
		return true, n.Mul(n, number(8)), new(big.Int).Mul(number(ticks), number(2))
	}
	d := n.Sub(n, new(big.Int).Quo(number(e.Mean), number(8)))
	mean := new(big.Int).Add(number(e.Mean), d)
	spread := new(big.Int).Add(number(e.Spread), new(big.Int).Abs(d))
	return true, mean, spread.Sub(spread, new(big.Int).Quo(number(e.Spread), number(4)))
}

// waitOf is Wait by the chapter's words, in numbers that no sum leaves.
func waitOf(e api.Estimate, low, high int) *big.Int {
	wait := number(low)
	if e.Known {
		spread := number(e.Spread)
		if e.Spread < 1 {
			spread = number(1)
		}
		both := new(big.Int).Add(new(big.Int).Quo(number(e.Mean), number(8)), spread)
		if both.Cmp(number(high)) > 0 {
			both = number(high)
		}
		if both.Cmp(wait) > 0 {
			wait = both
		}
	}
	if wait.Cmp(number(1)) < 0 {
		wait = number(1)
	}
	return wait
}

// backoffOf is Backoff by the chapter's words, in numbers that no sum leaves, up to some hundred doublings.
func backoffOf(ticks, tries, most int) *big.Int {
	if ticks < 1 {
		ticks = 1
	}
	if most < 1 {
		most = 1
	}
	n := number(ticks)
	for i := 1; i < tries && i < 200; i++ {
		n.Add(n, n)
	}
	if n.Cmp(number(most)) > 0 {
		return number(most)
	}
	return n
}

// oldestOf is Oldest by the chapter's words.
func oldestOf(l []api.Sent) (api.Sent, bool) {
	for _, s := range l {
		least := true
		for _, other := range l {
			least = least && s.Seq <= other.Seq
		}
		if least {
			return s, true
		}
	}
	return api.Sent{}, false
}

// adds looks whether Add answers what addOf answers, and answers that.
func adds(t *testing.T, l []api.Sent, seq int, bytes string, r api.Rules) ([]api.Sent, api.Errno) {
	t.Helper()
	got, err := resend.Add(l, seq, bytes, r)
	want, wantErr := addOf(l, seq, bytes, r)
	if !alike(got, want) || err != wantErr {
		t.Fatalf("Add of %d, %q to %v by %v: %v, %d, want %v, %d", seq, bytes, l, r, got, err, want, wantErr)
	}
	return got, err
}

// ackeds looks whether Acked answers what ackedOf answers, and answers that.
func ackeds(t *testing.T, l []api.Sent, a api.Ack) ([]api.Sent, int) {
	t.Helper()
	got, many := resend.Acked(l, a)
	want, wantMany := ackedOf(l, a)
	if !alike(got, want) || many != wantMany {
		t.Fatalf("Acked of %v, %v: %v, %d, want %v, %d", l, a, got, many, want, wantMany)
	}
	return got, many
}

// ticks looks whether Tick answers what tickOf answers, and answers that.
func ticks(t *testing.T, l []api.Sent, r api.Rules) ([]api.Sent, []string, bool) {
	t.Helper()
	got, again, dead := resend.Tick(l, r)
	want, wantAgain, wantDead := tickOf(l, r)
	if !alike(got, want) || !slices.Equal(again, wantAgain) || dead != wantDead {
		t.Fatalf("Tick of %v by %v: %v, %q, %t, want %v, %q, %t", l, r, got, again, dead, want, wantAgain, wantDead)
	}
	return got, again, dead
}

// samples looks whether Sample answers what sampleOf answers, and answers that.
func samples(t *testing.T, e api.Estimate, ticks int) api.Estimate {
	t.Helper()
	got := resend.Sample(e, ticks)
	known, mean, spread := sampleOf(e, ticks)
	if got.Known != known || number(got.Mean).Cmp(mean) != 0 || number(got.Spread).Cmp(spread) != 0 {
		t.Fatalf("Sample of %v, %d: %v, want %t, %v, %v", e, ticks, got, known, mean, spread)
	}
	return got
}

// waits looks whether Wait answers what waitOf answers, and answers that.
func waits(t *testing.T, e api.Estimate, low, high int) int {
	t.Helper()
	got, want := resend.Wait(e, low, high), waitOf(e, low, high)
	if number(got).Cmp(want) != 0 {
		t.Fatalf("Wait of %v, %d, %d: %d, want %v", e, low, high, got, want)
	}
	return got
}

// backs looks whether Backoff answers what backoffOf answers.
func backs(t *testing.T, ticks, tries, most int) {
	t.Helper()
	if got, want := resend.Backoff(ticks, tries, most), backoffOf(ticks, tries, most); number(got).Cmp(want) != 0 {
		t.Fatalf("Backoff of %d, %d, %d: %d, want %v", ticks, tries, most, got, want)
	}
}

// anyNumber is a small number, or one of edges.
func anyNumber(r *rand.Rand) int {
	if r.Intn(3) == 0 {
		return edges[r.Intn(len(edges))]
	}
	return r.Intn(14) - 2
}

// anyList is some that were sent, often with numbers that rise.
func anyList(r *rand.Rand) []api.Sent {
	var l []api.Sent
	for range r.Intn(11) {
		l = append(l, api.Sent{Seq: anyNumber(r), Bytes: string(rune('a' + r.Intn(20))), Tries: anyNumber(r), Left: anyNumber(r)})
	}
	if r.Intn(3) > 0 {
		at := r.Intn(65520)
		for i := range l {
			at += 1 + r.Intn(2)
			l[i].Seq = at
		}
	}
	return l
}

// besides is a number near those of l, or another one.
func besides(r *rand.Rand, l []api.Sent) int {
	if len(l) == 0 || r.Intn(4) == 0 {
		return anyNumber(r)
	}
	seq := l[r.Intn(len(l))].Seq
	if seq > math.MaxInt-20 || seq < math.MinInt+20 {
		return seq
	}
	return seq + r.Intn(12) - 4
}

func TestRight(t *testing.T) { // P17.1
	for _, r := range []api.Rules{{Hello: 1, Dead: 2, Resend: 1, Tries: 1}, {Hello: 100, Dead: 1000, Resend: 100, Tries: 10}, {Hello: 100, Dead: 101, Resend: 1, Tries: 10}, {Hello: 5, Dead: 20, Resend: 3, Tries: 4}} {
		if !resend.Right(r) {
			t.Errorf("Right of %v: false", r)
		}
	}
	for _, r := range []api.Rules{{}, {Hello: 0, Dead: 2, Resend: 1, Tries: 1}, {Hello: 101, Dead: 200, Resend: 1, Tries: 1}, {Hello: 5, Dead: 5, Resend: 1, Tries: 1}, {Hello: 5, Dead: 4, Resend: 1, Tries: 1}, {Hello: 5, Dead: 1001, Resend: 1, Tries: 1}, {Hello: 5, Dead: 9, Resend: 0, Tries: 1}, {Hello: 5, Dead: 9, Resend: 101, Tries: 1}, {Hello: 5, Dead: 9, Resend: 1, Tries: 0}, {Hello: 5, Dead: 9, Resend: 1, Tries: 11}} {
		if resend.Right(r) {
			t.Errorf("Right of %v: true", r)
		}
	}
	for _, n := range edges {
		for _, r := range []api.Rules{{Hello: n, Dead: 1000, Resend: 1, Tries: 1}, {Hello: n, Dead: n, Resend: 1, Tries: 1}, {Hello: 5, Dead: n, Resend: 1, Tries: 1}, {Hello: 5, Dead: 9, Resend: n, Tries: 1}, {Hello: 5, Dead: 9, Resend: 1, Tries: n}} {
			if got := resend.Right(r); got != isRight(r) {
				t.Errorf("Right of %v: %t", r, got)
			}
			for _, m := range edges {
				if r.Dead = m; resend.Right(r) != isRight(r) {
					t.Errorf("Right of %v: %t", r, resend.Right(r))
				}
			}
		}
	}
}

func TestAdd(t *testing.T) { // P17.2
	l, err := resend.Add(nil, 0, "hi", rules(3, 4))
	if !alike(l, []api.Sent{{Seq: 0, Bytes: "hi", Tries: 1, Left: 3}}) || err != api.OK {
		t.Errorf("Add to none: %v, %d", l, err)
	}
	// Numbers may leave some out; texts may be empty, or the same.
	l, err = resend.Add(l, 7, "", rules(1, 4))
	if !alike(l, []api.Sent{{Seq: 0, Bytes: "hi", Tries: 1, Left: 3}, {Seq: 7, Tries: 1, Left: 1}}) || err != api.OK {
		t.Errorf("Add of an empty text: %v, %d", l, err)
	}
	l, err = resend.Add(l, 65535, "hi", rules(100, 4))
	if !alike(l, []api.Sent{{Seq: 0, Bytes: "hi", Tries: 1, Left: 3}, {Seq: 7, Tries: 1, Left: 1}, {Seq: 65535, Bytes: "hi", Tries: 1, Left: 100}}) || err != api.OK {
		t.Errorf("Add of the last number: %v, %d", l, err)
	}
	// Of the rules just Resend counts, and that may be greater than is right.
	for _, n := range edges {
		l, err := resend.Add(nil, 5, "x", api.Rules{Resend: n, Hello: n, Dead: -n, Tries: n})
		switch {
		case n < 1 && (len(l) != 0 || err != api.ErrArg):
			t.Errorf("Add by a Resend of %d: %v, %d", n, l, err)
		case n >= 1 && (!alike(l, []api.Sent{{Seq: 5, Bytes: "x", Tries: 1, Left: n}}) || err != api.OK):
			t.Errorf("Add by a Resend of %d: %v, %d", n, l, err)
		}
	}
}

// adding is a number that is added to what was sent with others.
type adding struct {
	seqs []int
	seq  int
	wait int // ticks till it is sent again
	err  api.Errno
}

func TestAddErrors(t *testing.T) { // P17.2
	eight, nine := []int{0, 1, 2, 3, 4, 5, 6, 7}, []int{0, 1, 2, 3, 4, 5, 6, 7, 8}
	for _, c := range []adding{
		// No number in a row, or no ticks.
		{nil, -1, 1, api.ErrArg},
		{nil, 65536, 1, api.ErrArg},
		{nil, math.MinInt, 1, api.ErrArg},
		{nil, math.MaxInt, 1, api.ErrArg},
		{nil, 1 << 32, 1, api.ErrArg},
		{[]int{3}, 4, 0, api.ErrArg},
		{[]int{3}, 4, -1, api.ErrArg},
		{[]int{3}, 4, math.MinInt, api.ErrArg},
		{nil, 65535, 1, api.OK},
		{nil, 65001, 1, api.OK},
		// There is no room.
		{eight, 8, 1, api.ErrFull},
		{eight, 65535, 1, api.ErrFull},
		{nine, 9, 1, api.ErrFull},
		{eight[:7], 7, 1, api.OK},
		{eight[1:], 8, 1, api.OK},
		// One has it, or a greater one.
		{[]int{3}, 3, 1, api.ErrThere},
		{[]int{3}, 2, 1, api.ErrThere},
		{[]int{3}, 0, 1, api.ErrThere},
		{[]int{3, 5}, 4, 1, api.ErrThere},
		{[]int{3, 5}, 3, 1, api.ErrThere},
		{[]int{5, 3}, 4, 1, api.ErrThere},
		{[]int{5, 3}, 5, 1, api.ErrThere},
		{[]int{5, 3}, 6, 1, api.OK},
		{[]int{65535}, 65535, 1, api.ErrThere},
		{[]int{0}, 0, 1, api.ErrThere},
		{[]int{math.MaxInt}, 65535, 1, api.ErrThere},
		{[]int{math.MinInt, -1}, 0, 1, api.OK},
		// The first thing that is wrong counts.
		{eight, -1, 1, api.ErrArg},
		{eight, 65536, 1, api.ErrArg},
		{eight, 8, 0, api.ErrArg},
		{eight, 3, 0, api.ErrArg},
		{[]int{3}, 3, 0, api.ErrArg},
		{[]int{3}, -1, 0, api.ErrArg},
		{eight, 7, 1, api.ErrFull},
		{nine, 0, 1, api.ErrFull},
	} {
		l, want := list(c.seqs...), list(c.seqs...)
		if c.err == api.OK {
			want = append(want, api.Sent{Seq: c.seq, Bytes: "x", Tries: 1, Left: c.wait})
		}
		if got, err := resend.Add(l, c.seq, "x", rules(c.wait, 3)); !alike(got, want) || err != c.err {
			t.Errorf("Add of %d to %v by a Resend of %d: %v, %d, want %v, %d", c.seq, c.seqs, c.wait, got, err, want, c.err)
		}
	}
}

func TestAddToAny(t *testing.T) { // P17.2
	r := rand.New(rand.NewSource(2))
	var many [13]int
	for range 40000 {
		l := anyList(r)
		_, err := adds(t, l, besides(r, l), string(rune('a'+r.Intn(9))), rules(anyNumber(r), anyNumber(r)))
		many[err]++
	}
	for _, err := range []api.Errno{api.OK, api.ErrArg, api.ErrFull, api.ErrThere} {
		if many[err] < 1000 {
			t.Errorf("error %d came %d times: too few to tell much", err, many[err])
		}
	}
}

func TestAcked(t *testing.T) { // P17.3
	for _, c := range []struct {
		seqs       []int
		next, bits int
		left       []int
	}{
		{nil, 9, 255, nil},
		{[]int{0}, 0, 0, []int{0}},
		{[]int{0}, 1, 0, nil},
		{[]int{0}, 0, 1, nil},
		{[]int{3, 4, 5, 6}, 5, 0, []int{5, 6}},
		{[]int{3, 4, 5, 6}, 5, 2, []int{5}},
		{[]int{3, 4, 5, 6}, 3, 5, []int{4, 6}},
		{[]int{3, 4, 5, 6}, 7, 0, nil},
		{[]int{3, 4, 5, 6}, 3, 0, []int{3, 4, 5, 6}},
		{[]int{3, 4, 5, 6}, 0, 0, []int{3, 4, 5, 6}},
		{[]int{3, 4, 5, 6}, 0, 255, nil},
		{[]int{7, 8}, 0, 255, []int{8}},
		{[]int{7, 8}, 1, 255, nil},
		{[]int{65534, 65535}, 65535, 0, []int{65535}},
		{[]int{65534, 65535}, 65535, 1, nil},
		{[]int{65534, 65535}, 65530, 32, []int{65534}},
		// What is no number in a row, and acks that are not right.
		{[]int{65535, 65536}, 65535, 255, []int{65536}},
		{[]int{65535, 65536}, 65537, 0, nil},
		{[]int{-1, 0}, 0, 0, []int{0}},
		{[]int{0, 1}, -1, 255, []int{0, 1}},
		{[]int{-2, 0, 1}, -1, 255, []int{0, 1}},
		{[]int{math.MinInt, 5, math.MaxInt}, math.MinInt, 255, []int{math.MinInt, 5, math.MaxInt}},
		{[]int{math.MinInt, 5, math.MaxInt}, math.MaxInt, -1, []int{math.MaxInt}},
		{[]int{3, 4}, 3, -1, nil},
		{[]int{3, 4}, 3, -2, []int{3}},
		{[]int{3, 4, 11}, 3, 256, []int{3, 4, 11}},
		// In another order, and twice.
		{[]int{6, 3, 5, 4}, 4, 4, []int{5, 4}},
		{[]int{4, 4, 3, 3, 4}, 4, 0, []int{4, 4, 4}},
		{[]int{4, 4, 3, 3, 4}, 3, 2, []int{3, 3}},
		{[]int{0, 1, 2, 3, 4, 5, 6, 7, 8, 9}, 4, 10, []int{4, 6, 8, 9}},
	} {
		a := api.Ack{From: 99, Next: c.next, Bits: c.bits}
		got, many := resend.Acked(list(c.seqs...), a)
		if !alike(got, list(c.left...)) || many != len(c.seqs)-len(c.left) {
			t.Errorf("Acked of %v, next %d, bits %d: %v, %d, want %v", c.seqs, c.next, c.bits, got, many, c.left)
		}
	}
	r := rand.New(rand.NewSource(3))
	gone := 0
	for range 30000 {
		l := anyList(r)
		_, many := ackeds(t, l, api.Ack{Next: besides(r, l), Bits: r.Intn(300) - 20})
		gone += many
	}
	if gone < 20000 {
		t.Errorf("just %d came: too few to tell much", gone)
	}
}

func TestTick(t *testing.T) { // P17.4
	for _, c := range []struct {
		before []api.Sent
		r      api.Rules
		after  []api.Sent
		again  []string
		dead   bool
	}{
		{nil, rules(3, 4), nil, nil, false},
		// A tick less.
		{states([2]int{1, 2}), rules(3, 4), states([2]int{1, 1}), nil, false},
		{states([2]int{4, 3}, [2]int{9, 2}), rules(3, 4), states([2]int{4, 2}, [2]int{9, 1}), nil, false},
		{states([2]int{1, math.MaxInt}), rules(3, 4), states([2]int{1, math.MaxInt - 1}), nil, false},
		{states([2]int{math.MaxInt, 2}), rules(3, 4), states([2]int{math.MaxInt, 1}), nil, false},
		// It is sent again.
		{states([2]int{1, 1}), rules(3, 4), states([2]int{2, 3}), []string{"a"}, false},
		{states([2]int{3, 1}), rules(3, 4), states([2]int{4, 3}), []string{"a"}, false},
		{states([2]int{1, 0}, [2]int{1, -5}, [2]int{1, math.MinInt}), rules(3, 4), states([2]int{2, 3}, [2]int{2, 3}, [2]int{2, 3}), []string{"a", "b", "c"}, false},
		{states([2]int{1, 5}, [2]int{2, 1}, [2]int{1, 2}, [2]int{3, 1}), rules(7, 4), states([2]int{1, 4}, [2]int{3, 7}, [2]int{1, 1}, [2]int{4, 7}), []string{"b", "d"}, false},
		{states([2]int{math.MinInt, 1}), rules(7, math.MinInt+1), states([2]int{math.MinInt + 1, 7}), []string{"a"}, false},
		{states([2]int{math.MaxInt - 1, 1}), rules(7, math.MaxInt), states([2]int{math.MaxInt, 7}), []string{"a"}, false},
		// The session is dead: what tells so is as it was, and all others are seen to.
		{states([2]int{4, 1}), rules(3, 4), states([2]int{4, 1}), nil, true},
		{states([2]int{5, 1}), rules(3, 4), states([2]int{5, 1}), nil, true},
		{states([2]int{4, 0}), rules(3, 4), states([2]int{4, 0}), nil, true},
		{states([2]int{4, -9}), rules(3, 4), states([2]int{4, -9}), nil, true},
		{states([2]int{1, 1}), rules(3, 1), states([2]int{1, 1}), nil, true},
		{states([2]int{1, 1}), rules(3, 0), states([2]int{1, 1}), nil, true},
		{states([2]int{math.MaxInt, 1}), rules(3, math.MaxInt), states([2]int{math.MaxInt, 1}), nil, true},
		{states([2]int{math.MinInt, math.MinInt}), rules(3, math.MinInt), states([2]int{math.MinInt, math.MinInt}), nil, true},
		{states([2]int{4, 1}, [2]int{1, 1}, [2]int{1, 9}), rules(3, 4), states([2]int{4, 1}, [2]int{2, 3}, [2]int{1, 8}), []string{"b"}, true},
		{states([2]int{1, 1}, [2]int{1, 9}, [2]int{4, 1}), rules(3, 4), states([2]int{2, 3}, [2]int{1, 8}, [2]int{4, 1}), []string{"a"}, true},
		// Of the rules just Resend and Tries count, whatever they are.
		{states([2]int{1, 1}), api.Rules{Resend: 0, Tries: 2}, states([2]int{2, 0}), []string{"a"}, false},
		{states([2]int{1, 1}), api.Rules{Resend: math.MinInt, Tries: 20}, states([2]int{2, math.MinInt}), []string{"a"}, false},
		{states([2]int{1, 1}), api.Rules{Resend: math.MaxInt, Tries: math.MaxInt}, states([2]int{2, math.MaxInt}), []string{"a"}, false},
		{states([2]int{0, 1}), api.Rules{}, states([2]int{0, 1}), nil, true},
	} {
		got, again, dead := resend.Tick(c.before, c.r)
		if !alike(got, c.after) || !slices.Equal(again, c.again) || dead != c.dead {
			t.Errorf("Tick of %v by %v: %v, %q, %t, want %v, %q, %t", c.before, c.r, got, again, dead, c.after, c.again, c.dead)
		}
	}
	// Texts that are empty, or the same, are sent as often as they are there; numbers don't count.
	l := []api.Sent{{Seq: 9, Tries: 1, Left: 1}, {Seq: -9, Bytes: "x", Tries: 1, Left: 1}, {Seq: 9, Bytes: "x", Tries: 1, Left: 1}}
	if _, again, dead := resend.Tick(l, rules(2, 2)); !slices.Equal(again, []string{"", "x", "x"}) || dead {
		t.Errorf("Tick: %q, %t", again, dead)
	}
}

func TestTickOfAny(t *testing.T) { // P17.4
	r := rand.New(rand.NewSource(4))
	sentAgain, deads := 0, 0
	for range 30000 {
		_, again, dead := ticks(t, anyList(r), rules(anyNumber(r), anyNumber(r)))
		sentAgain += len(again)
		if dead {
			deads++
		}
	}
	if sentAgain < 5000 || deads < 5000 || deads > 25000 {
		t.Errorf("%d were sent again, %d were dead: too few, or too many, to tell much", sentAgain, deads)
	}
}

func TestSame(t *testing.T) { // P17.5
	l := list(3, 4, 5)
	if !resend.Same(l, list(3, 4, 5)) || !resend.Same(nil, nil) || !resend.Same(nil, []api.Sent{}) || !resend.Same([]api.Sent{}, nil) {
		t.Error("Same of the same: false")
	}
	for what, change := range map[string]func([]api.Sent) []api.Sent{
		"number":   func(l []api.Sent) []api.Sent { l[0].Seq--; return l },
		"bytes":    func(l []api.Sent) []api.Sent { l[1].Bytes += "x"; return l },
		"a byte":   func(l []api.Sent) []api.Sent { l[1].Bytes = l[1].Bytes[1:] + "y"; return l },
		"no bytes": func(l []api.Sent) []api.Sent { l[2].Bytes = ""; return l },
		"tries":    func(l []api.Sent) []api.Sent { l[2].Tries++; return l },
		"left":     func(l []api.Sent) []api.Sent { l[2].Left--; return l },
		"one less": func(l []api.Sent) []api.Sent { return l[:2] },
		"others":   func(l []api.Sent) []api.Sent { return l[1:] },
		"one more": func(l []api.Sent) []api.Sent { return append(l, sent(6)) },
		"none":     func(l []api.Sent) []api.Sent { return nil },
		"zeros":    func(l []api.Sent) []api.Sent { return make([]api.Sent, 3) },
		"order":    func(l []api.Sent) []api.Sent { l[0], l[1] = l[1], l[0]; return l },
		"twice":    func(l []api.Sent) []api.Sent { l[1] = l[0]; return l },
	} {
		other := change(list(3, 4, 5))
		if resend.Same(l, other) || resend.Same(other, l) {
			t.Errorf("Same, but for %s: true", what)
		}
		if !resend.Same(other, slices.Clone(other)) {
			t.Errorf("Same of one with other %s, and its like: false", what)
		}
	}
	for _, n := range edges {
		for _, m := range edges {
			for _, pair := range [][2]api.Sent{{{Seq: n}, {Seq: m}}, {{Tries: n}, {Tries: m}}, {{Left: n}, {Left: m}}} {
				if got := resend.Same(pair[:1], pair[1:]); got != (n == m) {
					t.Errorf("Same of %v: %t", pair, got)
				}
			}
		}
	}
}

func TestSample(t *testing.T) { // P17.6
	for _, c := range []struct {
		e            api.Estimate
		ticks        int
		mean, spread int
	}{
		// The first one.
		{api.Estimate{}, 8, 64, 16},
		{api.Estimate{}, 1, 8, 2},
		{api.Estimate{}, 0, 0, 0},
		{api.Estimate{}, -5, 0, 0},
		{api.Estimate{}, math.MinInt, 0, 0},
		{api.Estimate{}, 9999, 79992, 19998},
		{api.Estimate{}, 10000, 80000, 20000},
		{api.Estimate{}, 10001, 80000, 20000},
		{api.Estimate{}, math.MaxInt, 80000, 20000},
		{api.Estimate{Mean: 55, Spread: 66}, 3, 24, 6},
		{api.Estimate{Mean: math.MinInt, Spread: math.MaxInt}, 3, 24, 6},
		// Those behind it.
		{api.Estimate{Known: true, Mean: 64, Spread: 16}, 16, 72, 20},
		{api.Estimate{Known: true, Mean: 64, Spread: 16}, 8, 64, 12},
		{api.Estimate{Known: true, Mean: 64, Spread: 16}, 0, 56, 20},
		{api.Estimate{Known: true, Mean: 64, Spread: 16}, -1, 56, 20},
		{api.Estimate{Known: true, Mean: 64, Spread: 16}, 20000, 10056, 10004},
		{api.Estimate{Known: true}, 0, 0, 0},
		{api.Estimate{Known: true}, 10000, 10000, 10000},
		{api.Estimate{Known: true}, math.MaxInt, 10000, 10000},
		// Parts are cut toward 0: 71 and 64 have the same eighth, 7 and 4 the same fourth.
		{api.Estimate{Known: true, Mean: 71, Spread: 7}, 9, 72, 7},
		{api.Estimate{Known: true, Mean: 64, Spread: 4}, 9, 65, 4},
		{api.Estimate{Known: true, Mean: 7, Spread: 3}, 0, 7, 3},
		{api.Estimate{Known: true, Mean: 72, Spread: 8}, 8, 71, 7},
		{api.Estimate{Known: true, Mean: -7, Spread: -3}, 0, -7, -3},
		{api.Estimate{Known: true, Mean: -8, Spread: -4}, 0, -7, -2},
		{api.Estimate{Known: true, Mean: -9, Spread: -7}, 2, -6, -3},
	} {
		want := api.Estimate{Known: true, Mean: c.mean, Spread: c.spread}
		if got := resend.Sample(c.e, c.ticks); got != want {
			t.Errorf("Sample of %v, %d: %v, want %v", c.e, c.ticks, got, want)
		}
	}
}

func TestSampleOfAny(t *testing.T) { // P17.6
	for _, known := range []bool{false, true} {
		for _, mean := range edges {
			for _, spread := range edges {
				for _, ticks := range edges {
					samples(t, api.Estimate{Known: known, Mean: mean, Spread: spread}, ticks)
				}
			}
		}
	}
	r := rand.New(rand.NewSource(6))
	for range 2000 {
		var e api.Estimate
		for range 40 {
			e = samples(t, e, r.Intn(1<<r.Intn(15))-1)
		}
	}
}

func TestWait(t *testing.T) { // P17.7
	known := func(mean, spread int) api.Estimate { return api.Estimate{Known: true, Mean: mean, Spread: spread} }
	for _, c := range []struct {
		e         api.Estimate
		low, high int
		want      int
	}{
		// Nothing is known.
		{api.Estimate{}, 5, 9, 5},
		{api.Estimate{}, 9, 5, 9},
		{api.Estimate{}, 1, 0, 1},
		{api.Estimate{}, 0, 9, 1},
		{api.Estimate{}, -3, 9, 1},
		{api.Estimate{}, math.MinInt, math.MaxInt, 1},
		{api.Estimate{}, math.MaxInt, 1, math.MaxInt},
		{api.Estimate{Mean: 800, Spread: 9}, 5, 900, 5},
		// Mean / 8 and Spread together.
		{known(72, 20), 1, 99, 29},
		{known(72, 20), 29, 29, 29},
		{known(79, 20), 1, 99, 29},
		{known(80, 20), 1, 99, 30},
		{known(7, 3), 1, 99, 3},
		{known(72, 1), 1, 99, 10},
		{known(72, 0), 1, 99, 10},
		{known(72, -50), 1, 99, 10},
		{known(72, math.MinInt), 1, 99, 10},
		{known(0, 0), 0, 99, 1},
		{known(0, 2), 0, 99, 2},
		{known(-16, 20), 1, 99, 18},
		{known(-15, 20), 1, 99, 19},
		{known(-800, 20), 1, 99, 1},
		{known(-800, 20), -99, 99, 1},
		// No more than high.
		{known(72, 20), 1, 28, 28},
		{known(72, 20), 1, 29, 29},
		{known(72, 20), 1, 30, 29},
		{known(72, 20), 1, 0, 1},
		{known(72, 20), -9, -5, 1},
		{known(72, 20), math.MinInt, math.MinInt, 1},
		// No less than low, though that is above high.
		{known(72, 20), 30, 99, 30},
		{known(72, 20), 28, 99, 29},
		{known(72, 20), 50, 28, 50},
		{known(72, 20), 15, 10, 15},
		{known(72, 20), math.MaxInt, 10, math.MaxInt},
		// At the ends of int.
		{known(math.MaxInt, 1), 1, math.MaxInt, math.MaxInt/8 + 1},
		{known(math.MaxInt, math.MaxInt), 1, 99, 99},
		{known(math.MinInt, 1), 1, math.MaxInt, 1},
		{known(math.MinInt, math.MaxInt), 1, math.MaxInt, math.MaxInt - 1<<60},
		{known(0, math.MaxInt), 1, math.MaxInt, math.MaxInt},
	} {
		if got := resend.Wait(c.e, c.low, c.high); got != c.want {
			t.Errorf("Wait of %v, %d, %d: %d, want %d", c.e, c.low, c.high, got, c.want)
		}
	}
}

func TestWaitOfAny(t *testing.T) { // P17.7
	r := rand.New(rand.NewSource(7))
	for range 60000 {
		e := api.Estimate{Known: r.Intn(4) > 0, Mean: r.Intn(900) - 100, Spread: r.Intn(90) - 10}
		waits(t, e, r.Intn(200)-20, r.Intn(200)-20)
		e.Mean, e.Spread = anyNumber(r), anyNumber(r)
		waits(t, e, anyNumber(r), anyNumber(r))
	}
}

func TestBackoff(t *testing.T) { // P17.8
	for _, c := range []struct{ ticks, tries, most, want int }{
		{3, 1, 100, 3},
		{3, 2, 100, 6},
		{3, 3, 100, 12},
		{3, 4, 100, 24},
		{3, 6, 100, 96},
		{3, 7, 100, 100},
		{3, 3, 12, 12},
		{3, 3, 11, 11},
		{3, 3, 13, 12},
		{3, 3, 10, 10},
		// No tries, or fewer.
		{3, 0, 100, 3},
		{3, -1, 100, 3},
		{3, math.MinInt, 100, 3},
		{3, math.MinInt + 1, 100, 3},
		// At least a tick.
		{0, 1, 100, 1},
		{-7, 1, 100, 1},
		{0, 3, 100, 4},
		{-7, 3, 100, 4},
		{math.MinInt, 3, 100, 4},
		// At most most, at least 1.
		{100, 1, 100, 100},
		{101, 1, 100, 100},
		{500, 0, 100, 100},
		{3, 1, 2, 2},
		{3, 1, 1, 1},
		{3, 5, 0, 1},
		{3, 5, -9, 1},
		{3, 5, math.MinInt, 1},
		{0, 99, 0, 1},
		{math.MaxInt, 1, 5, 5},
		// Nothing leaves an int, and many tries end soon.
		{1, 62, math.MaxInt, 1 << 61},
		{1, 63, math.MaxInt, 1 << 62},
		{1, 64, math.MaxInt, math.MaxInt},
		{1, 65, math.MaxInt, math.MaxInt},
		{1, 1 << 40, math.MaxInt, math.MaxInt},
		{1, math.MaxInt, math.MaxInt, math.MaxInt},
		{3, math.MaxInt, 100, 100},
		{math.MaxInt, math.MaxInt, math.MaxInt, math.MaxInt},
		{math.MaxInt, 1, math.MaxInt, math.MaxInt},
		{math.MaxInt / 2, 2, math.MaxInt, math.MaxInt - 1},
		{math.MaxInt/2 + 1, 2, math.MaxInt, math.MaxInt},
		{1, 63, 1<<62 - 1, 1<<62 - 1},
	} {
		if got := resend.Backoff(c.ticks, c.tries, c.most); got != c.want {
			t.Errorf("Backoff of %d, %d, %d: %d, want %d", c.ticks, c.tries, c.most, got, c.want)
		}
	}
	for ticks := -2; ticks < 40; ticks++ {
		for tries := -2; tries < 12; tries++ {
			for most := -2; most < 80; most++ {
				backs(t, ticks, tries, most)
			}
		}
	}
	for _, ticks := range edges {
		for _, tries := range edges {
			for _, most := range edges {
				backs(t, ticks, tries, most)
			}
		}
	}
}

func TestOldest(t *testing.T) { // P17.9
	for _, c := range []struct {
		seqs []int
		at   int
	}{
		{[]int{0}, 0},
		{[]int{3, 4, 5}, 0},
		{[]int{5, 4, 3}, 2},
		{[]int{5, 3, 4}, 1},
		{[]int{65535, 0}, 1},
		{[]int{0, -1}, 1},
		{[]int{math.MaxInt, math.MinInt, 0}, 1},
		{[]int{0, math.MinInt, math.MaxInt}, 1},
		{[]int{math.MaxInt}, 0},
		{[]int{math.MaxInt, math.MaxInt - 1}, 1},
	} {
		if got, ok := resend.Oldest(list(c.seqs...)); got != sent(c.seqs[c.at]) || !ok {
			t.Errorf("Oldest of %v: %v, %t", c.seqs, got, ok)
		}
	}
	for _, l := range [][]api.Sent{nil, {}} {
		if got, ok := resend.Oldest(l); got != (api.Sent{}) || ok {
			t.Errorf("Oldest of none: %v, %t", got, ok)
		}
	}
	// Of several it is the first one, and all of it.
	l := []api.Sent{{Seq: 9}, {Seq: 4, Bytes: "b", Tries: 2, Left: 7}, {Seq: 4, Bytes: "a", Tries: 1, Left: 1}, {Seq: 5}, {Seq: 4, Bytes: "b", Tries: 3}}
	if got, ok := resend.Oldest(l); got != l[1] || !ok {
		t.Errorf("Oldest of several: %v, %t", got, ok)
	}
	r := rand.New(rand.NewSource(9))
	for range 20000 {
		l := anyList(r)
		got, ok := resend.Oldest(l)
		if want, wantOk := oldestOf(l); got != want || ok != wantOk {
			t.Fatalf("Oldest of %v: %v, %t, want %v", l, got, ok, want)
		}
	}
}

func TestSameSamples(t *testing.T) { // P17.11
	for ticks := range 10001 {
		var e api.Estimate
		last := math.MaxInt
		for i := range 60 {
			e = resend.Sample(e, ticks)
			// Below 4 nothing is cut off the spread any more.
			if !e.Known || e.Mean != 8*ticks || e.Spread > last || e.Spread == last && last > 3 {
				t.Fatalf("Sample %d of %d: %v, behind a spread of %d", i, ticks, e, last)
			}
			last = e.Spread
		}
		if e.Spread > 3 {
			t.Fatalf("the spread of 60 samples of %d is %d", ticks, e.Spread)
		}
	}
}

func TestNobodyAcknowledges(t *testing.T) { // P17.10
	for wait := 1; wait <= 100; wait++ {
		for tries := 1; tries <= api.MaxTries; tries++ {
			r := rules(wait, tries)
			l, err := resend.Add(nil, 5, "hi", r)
			if err != api.OK || !resend.Right(r) {
				t.Fatalf("Add: %d", err)
			}
			times := 1
			for tick := 1; tick <= wait*tries; tick++ {
				var again []string
				var dead bool
				l, again, dead = ticks(t, l, r)
				if due := tick%wait == 0 && tick < wait*tries; due != (len(again) == 1) || due && again[0] != "hi" {
					t.Fatalf("tick %d, with %d tries, each %d ticks: %q", tick, tries, wait, again)
				}
				if times += len(again); dead != (tick == wait*tries) {
					t.Fatalf("tick %d, with %d tries, each %d ticks: %t", tick, tries, wait, dead)
				}
			}
			if times != tries {
				t.Errorf("with %d tries, each %d ticks, it was sent %d times", tries, wait, times)
			}
		}
	}
}

func TestExample(t *testing.T) { // the chapter's example
	r := rules(2, 1)
	l, _ := resend.Add(nil, 0, "hi", r)
	for tick := 1; tick <= 9; tick++ {
		got, again, dead := resend.Tick(l, r)
		if len(got) != 1 || len(again) != 0 || dead != (tick > 1) {
			t.Errorf("tick %d: %v, %q, %t", tick, got, again, dead)
		}
		l = got
	}
}

func TestSession(t *testing.T) { // P17.2, P17.3, P17.4, P17.10
	// What is acknowledged is not sent any more, and makes nothing dead.
	r := rand.New(rand.NewSource(10))
	for range 300 {
		rule := rules(1+r.Intn(5), 1+r.Intn(10))
		var l []api.Sent
		next := r.Intn(60000)
		for range 200 {
			switch r.Intn(3) {
			case 0:
				got, err := adds(t, l, next, string(rune('a'+next%26)), rule)
				if (err == api.OK) != (len(l) < api.MaxWindow) {
					t.Fatalf("Add of %d to %v: %d", next, l, err)
				}
				if err == api.OK {
					next++
				}
				l = got
			case 1:
				l, _ = ackeds(t, l, api.Ack{Next: next - r.Intn(9), Bits: r.Intn(256)})
			default:
				l, _, _ = ticks(t, l, rule)
			}
			if first, ok := resend.Oldest(l); ok != (len(l) > 0) || ok && first != l[0] {
				t.Fatalf("Oldest of %v: %v, %t", l, first, ok)
			}
		}
		if l, many := resend.Acked(l, api.Ack{Next: next}); len(l) != 0 || many > api.MaxWindow {
			t.Fatalf("where all came: %v, %d", l, many)
		}
	}
}

// held is what was sent with those numbers, with room behind its end, and a look at all that stands there.
func held(seqs ...int) ([]api.Sent, func() []api.Sent) {
	whole := list(append(seqs, 70, 71, 72)...)
	return whole[:len(seqs)], func() []api.Sent { return slices.Clone(whole) }
}

// fill puts x over all of l, and over what it has room for behind.
func fill[T any](l []T, x T) {
	l = l[:cap(l)]
	for i := range l {
		l[i] = x
	}
}

// answers are the lists that the calls answer of l, with each end that they have.
func answers(l []api.Sent) map[string][]api.Sent {
	m := map[string][]api.Sent{}
	for what, seq := range map[string]int{"Add": 90, "Add of a wrong one": -1, "Add of one that is there": 0} {
		m[what], _ = resend.Add(l, seq, "x", rules(3, 4))
	}
	for what, next := range map[string]int{"Acked of none": 0, "Acked of some": 7, "Acked of all": 99} {
		m[what], _ = resend.Acked(l, api.Ack{Next: next, Bits: 2})
	}
	for what, tries := range map[string]int{"Tick": 9, "Tick of a dead one": 1} {
		m[what], _, _ = resend.Tick(l, rules(3, tries))
	}
	return m
}

func TestArgumentsStay(t *testing.T) { // R3
	for _, seqs := range [][]int{nil, {6}, {0, 8, 9}, {5, 7, 8, 9, 11}, {0, 1, 2, 3, 4, 5, 6, 7}} {
		l, now := held(seqs...)
		before := now()
		answers(l)
		resend.Same(l, l)
		resend.Oldest(l)
		if !alike(now(), before) {
			t.Errorf("%v: what was handed in was changed", seqs)
		}
	}
}

func TestAnswersAreNewMemory(t *testing.T) { // R3
	for _, seqs := range [][]int{nil, {6}, {0, 8, 9}, {5, 7, 8, 9, 11}, {0, 1, 2, 3, 4, 5, 6, 7}} {
		l, now := held(seqs...)
		before := now()
		for what, got := range answers(l) {
			fill(got, api.Sent{Seq: 99})
			if !alike(now(), before) {
				t.Fatalf("%s of %v shares memory with what was handed in", what, seqs)
			}
		}
		// Two answers of one list grow apart.
		a, _ := resend.Add(l, 90, "a", rules(3, 4))
		b, _ := resend.Add(l, 91, "b", rules(5, 4))
		if len(seqs) < 8 && (a[len(seqs)].Seq != 90 || b[len(seqs)].Seq != 91) {
			t.Errorf("two that were added to %v: %v, %v", seqs, a, b)
		}
	}
}

func TestGreatLists(t *testing.T) { // R1
	l := make([]api.Sent, 1<<18)
	for i := range l {
		l[i] = api.Sent{Seq: len(l) - i, Bytes: "x", Tries: i & 1, Left: i & 3}
	}
	if got, err := resend.Add(l, 5, "x", rules(1, 1)); !alike(got, l) || err != api.ErrFull {
		t.Errorf("Add to a great list: %d are there, %d", len(got), err)
	}
	got, many := resend.Acked(l, api.Ack{Next: 1000, Bits: 77})
	if left, wantMany := ackedOf(l, api.Ack{Next: 1000, Bits: 77}); !alike(got, left) || many != wantMany {
		t.Errorf("Acked of a great list: %d are left, %d came", len(got), many)
	}
	got, again, dead := resend.Tick(l, rules(1, 1))
	if after, sent, gone := tickOf(l, rules(1, 1)); !alike(got, after) || !slices.Equal(again, sent) || dead != gone {
		t.Errorf("Tick of a great list: %d are there, %d are sent again, %t", len(got), len(again), dead)
	}
	if got, ok := resend.Oldest(l); got != l[len(l)-1] || !ok || !resend.Same(l, slices.Clone(l)) {
		t.Errorf("Oldest of a great list: %v, %t", got, ok)
	}
	great := strings.Repeat("x", 1<<20)
	got, err := resend.Add(nil, 0, great, rules(1, 2))
	if err != api.OK || len(got) != 1 || got[0].Bytes != great {
		t.Errorf("Add of a great text: %d", err)
	}
	if _, again, _ := resend.Tick(got, rules(1, 2)); len(again) != 1 || again[0] != great {
		t.Error("Tick of a great text")
	}
}

// FuzzResend holds what the calls say of any lists and numbers against the chapter's words (P17.1 to P17.11).
func FuzzResend(f *testing.F) {
	f.Add([]byte{1, 2, 3, 4, 5, 6}, 0, 5, 3, 7)
	f.Add([]byte{7, 7, 200, 6, 0, 0, 1}, 65530, math.MinInt, 16, math.MaxInt)
	f.Add([]byte{}, math.MaxInt, math.MaxInt, -1, math.MinInt)
	f.Fuzz(func(t *testing.T, b []byte, seq, n, m, k int) {
		var l, row []api.Sent
		rule, e := rules(n, m), api.Estimate{Known: len(b)%2 == 0, Mean: n, Spread: m}
		for i, x := range b[:min(len(b), 100)] {
			at, small := i*(seq&3)+int(x>>4), int(int8(x))
			l = append(l, api.Sent{Seq: seq + small, Bytes: string(b[:i]), Tries: m - small, Left: small})
			row, _ = adds(t, row, at, string(b[i:]), rules(1+int(x&7), m))
			row, _ = ackeds(t, row, api.Ack{Next: at - 9, Bits: int(x)})
			e = samples(t, e, small*n)
		}
		for _, l := range [][]api.Sent{l, row} {
			adds(t, l, seq, "x", rule)
			ackeds(t, l, api.Ack{Next: n, Bits: m})
			ticks(t, l, rule)
			got, ok := resend.Oldest(l)
			if want, wantOk := oldestOf(l); got != want || ok != wantOk {
				t.Fatalf("Oldest of %v: %v, %t", l, got, ok)
			}
		}
		samples(t, e, k)
		waits(t, e, seq, k)
		backs(t, n, m, k)
		r := api.Rules{Hello: n, Dead: m, Resend: k, Tries: seq}
		if resend.Right(r) != isRight(r) || resend.Same(l, row) != alike(l, row) {
			t.Fatalf("Right of %v: %t; Same of %v and %v: %t", r, resend.Right(r), l, row, resend.Same(l, row))
		}
	})
}
