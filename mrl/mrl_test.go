package mrl_test

import (
	"fmt"
	"math"
	"math/rand"
	"slices"
	"strings"
	"testing"

	"fingerpost/acks"
	"fingerpost/api"
	"fingerpost/frame"
	"fingerpost/item"
	"fingerpost/mrl"
	"fingerpost/part"
)

// edges are numbers at those of what the chapter names, and at the ends of int.
var edges = []int{0, 1, 2, 7, 8, 9, 15, 16, 255, 256, 64991, 64992, 64993, 64998, 64999, 65000, 65001, 65527, 65528, 65534, 65535, 65536, 65537, 1<<31 - 1, 1 << 32, 1<<32 + 5, math.MaxInt - 8, math.MaxInt - 1, math.MaxInt, -1, -2, -8, -65536, -1 << 32, math.MinInt, math.MinInt + 1}

// hail is a hello of that node, with a pair of its own.
func hail(from int) api.Hello {
	h := api.Hello{From: from}
	h.Pair.Mine = api.Epoch{Boot: uint32(from + 2), Local: 9}
	h.Pair.Theirs = api.Epoch{Boot: 7, Local: uint32(from + 1)}
	return h
}

// rules are rules of that many ticks till a part is sent again, and that many tries.
func rules(resend, tries int) api.Rules {
	return api.Rules{Hello: 5, Dead: 20, Resend: resend, Tries: tries}
}

// told is the item of that number: it is right, and unlike those of the numbers near it in all its fields.
func told(n int) api.Item {
	if n%11 == 10 {
		return item.Far(n%16, n%3)
	}
	return api.Item{Dest: n % 16, Kind: n % 3, Dist: uint32(100 + n), Pred: (n + 1) % 16}
}

// list is so many items, from that number on.
func list(many, from int) []api.Item {
	var l []api.Item
	for i := range many {
		l = append(l, told(from+i))
	}
	return l
}

// piece is a part of that number with that many items, such as come: of another node than hears it.
func piece(seq, items int, more bool) api.Part {
	h := hail(seq & 7)
	return api.Part{From: h.From, Pair: h.Pair, Seq: seq, More: more, Items: list(items, seq&127)}
}

// sent is what was sent with that number.
func sent(seq int) api.Sent {
	return api.Sent{Seq: seq, Bytes: strings.Repeat("part", seq&3) + string(rune('a'+seq&15)), Tries: 1 + seq&3, Left: 1 + seq&7}
}

// sents are what was sent with those numbers.
func sents(seqs ...int) []api.Sent {
	var l []api.Sent
	for _, seq := range seqs {
		l = append(l, sent(seq))
	}
	return l
}

// row is the numbers from first to last.
func row(first, last int) []int {
	var l []int
	for n := first; n <= last; n++ {
		l = append(l, n)
	}
	return l
}

// full is a session in the midst of all: parts that are kept, that are ahead, and items that are gathered.
func full() api.Box {
	ahead := []api.Part{piece(7, 2, true), piece(8, 0, false), piece(11, 6, false)}
	return api.Box{Next: 5, Sent: sents(1, 3, 4), In: api.Window{Next: 5, Ahead: ahead}, Got: list(9, 40)}
}

// deep is b in memory of its own, all of it.
func deep(b api.Box) api.Box {
	b.Sent = append([]api.Sent(nil), b.Sent...)
	var ahead []api.Part
	for _, p := range b.In.Ahead {
		p.Items = append([]api.Item(nil), p.Items...)
		ahead = append(ahead, p)
	}
	b.In.Ahead = ahead
	b.Got = append([]api.Item(nil), b.Got...)
	return b
}

// alike tells by the fields whether a and b are the same part.
func alike(a, b api.Part) bool {
	return a.From == b.From && a.Pair == b.Pair && a.Seq == b.Seq && a.More == b.More && slices.Equal(a.Items, b.Items)
}

// like tells by the fields whether a and b are the same.
func like(a, b api.Box) bool {
	return a.Next == b.Next && slices.Equal(a.Sent, b.Sent) && a.In.Next == b.In.Next && slices.EqualFunc(a.In.Ahead, b.In.Ahead, alike) && slices.Equal(a.Got, b.Got)
}

// allLike tells whether a and b are the same messages, in order.
func allLike(a, b [][]api.Item) bool {
	return slices.EqualFunc(a, b, slices.Equal[[]api.Item])
}

// framed is p as a frame, which it must have.
func framed(t *testing.T, p api.Part) string {
	t.Helper()
	s, err := frame.Part(p)
	if err != api.OK {
		t.Fatalf("no frame of %v: %d", p, err)
	}
	return s
}

// answer is the frame of an ack in the session of h.
func answer(t *testing.T, h api.Hello, next, bits int) string {
	t.Helper()
	s, err := frame.Ack(api.Ack{From: h.From, Pair: h.Pair, Next: next, Bits: bits})
	if err != api.OK {
		t.Fatalf("no ack of %d, %d: %d", next, bits, err)
	}
	return s
}

// isNumber tells by chapter 15's words whether n is right.
func isNumber(n int) bool {
	return n >= 0 && n <= 65535
}

// sendOf is Send by the chapters' words, a step at a time.
func sendOf(b api.Box, h api.Hello, l []api.Item, r api.Rules) (api.Box, []string, api.Errno) {
	was := b
	b = deep(b)
	if len(l) > 48 {
		return was, nil, api.ErrLong
	}
	for _, x := range l {
		if !item.Right(x) {
			return was, nil, api.ErrArg
		}
	}
	pieces := 1
	for 6*pieces < len(l) {
		pieces++
	}
	if pieces > 8-len(b.Sent) || len(b.Sent) > 8 {
		return was, nil, api.ErrFull
	}
	var frames []string
	for i := range pieces {
		switch {
		case !isNumber(b.Next):
			return was, nil, api.ErrArg
		case b.Next >= 65000:
			return was, nil, api.ErrWrap
		case h.From < 0 || h.From > 15 || r.Resend < 1:
			return was, nil, api.ErrArg
		}
		for _, s := range b.Sent {
			if s.Seq >= b.Next {
				return was, nil, api.ErrThere
			}
		}
		last := i == pieces-1
		items := l[6*i:]
		if !last {
			items = l[6*i : 6*i+6]
		}
		s, _ := frame.Part(api.Part{From: h.From, Pair: h.Pair, Seq: b.Next, More: !last, Items: items})
		b.Sent = append(b.Sent, api.Sent{Seq: b.Next, Bytes: s, Tries: 1, Left: r.Resend})
		frames = append(frames, s)
		b.Next++
	}
	return b, frames, api.OK
}

// takeErr is the error of window.Take by chapter 16's words.
func takeErr(w api.Window, p api.Part) api.Errno {
	if !part.Right(p) || !isNumber(w.Next) {
		return api.ErrArg
	}
	if p.Seq < w.Next {
		return api.ErrOld
	}
	if p.Seq-w.Next > 7 {
		return api.ErrFull
	}
	for _, q := range w.Ahead {
		if q.Seq == p.Seq {
			return api.ErrOld
		}
	}
	return api.OK
}

// hearOf is Hear by the chapters' words, a step at a time, of a session whose parts ahead rise.
func hearOf(b api.Box, h api.Hello, p api.Part) (api.Box, string, [][]api.Item, api.Errno) {
	was := b
	b = deep(b)
	took := takeErr(b.In, p)
	if took != api.OK && took != api.ErrOld {
		return was, "", nil, took
	}
	if took == api.OK {
		at := 0
		for at < len(b.In.Ahead) && b.In.Ahead[at].Seq < p.Seq {
			at++
		}
		b.In.Ahead = slices.Insert(b.In.Ahead, at, p)
	}
	var messages [][]api.Item
	for took == api.OK && len(b.In.Ahead) > 0 && b.In.Ahead[0].Seq == b.In.Next {
		first := b.In.Ahead[0]
		b.In.Ahead = b.In.Ahead[1:]
		b.In.Next++
		if len(b.Got)+len(first.Items) > 48 {
			return was, "", nil, api.ErrLong
		}
		b.Got = append(b.Got, first.Items...)
		if !first.More {
			messages = append(messages, b.Got)
			b.Got = nil
		}
	}
	bits := 0
	for _, q := range b.In.Ahead {
		bits |= 1 << (q.Seq - b.In.Next)
	}
	s, err := frame.Ack(api.Ack{From: h.From, Pair: h.Pair, Next: b.In.Next, Bits: bits})
	if err != api.OK {
		return was, "", nil, err
	}
	return b, s, messages, took
}

// sends looks whether Send answers what sendOf answers, and answers that.
func sends(t *testing.T, b api.Box, h api.Hello, l []api.Item, r api.Rules) (api.Box, []string, api.Errno) {
	t.Helper()
	got, frames, err := mrl.Send(b, h, l, r)
	want, wantFrames, wantErr := sendOf(b, h, l, r)
	if !like(got, want) || !slices.Equal(frames, wantFrames) || err != wantErr {
		t.Fatalf("Send of %v by %v, %v to %v: %v, %q, %d, want %v, %q, %d", l, h, r, b, got, frames, err, want, wantFrames, wantErr)
	}
	return got, frames, err
}

// hears looks whether Hear answers what hearOf answers, and answers that.
func hears(t *testing.T, b api.Box, h api.Hello, p api.Part) (api.Box, string, [][]api.Item, api.Errno) {
	t.Helper()
	got, s, messages, err := mrl.Hear(b, h, p)
	want, wantS, wantMessages, wantErr := hearOf(b, h, p)
	if !like(got, want) || s != wantS || !allLike(messages, wantMessages) || err != wantErr {
		t.Fatalf("Hear of %v by %v to %v: %v, %q, %v, %d, want %v, %q, %v, %d", p, h, b, got, s, messages, err, want, wantS, wantMessages, wantErr)
	}
	return got, s, messages, err
}

func TestNew(t *testing.T) { // P19.1
	if got := mrl.New(); !like(got, api.Box{}) {
		t.Errorf("New: %v", got)
	}
	b, _, _ := mrl.Send(mrl.New(), hail(1), nil, rules(3, 2))
	b.Got = list(3, 1)
	if got := mrl.New(); !like(got, api.Box{}) {
		t.Errorf("New, once more: %v", got)
	}
}

func TestRoom(t *testing.T) { // P19.2
	for many := range 30 {
		b := full()
		b.Sent = sents(row(0, many-1)...)
		want := 8 - many
		if many > 8 {
			want = 0
		}
		if got := mrl.Room(b); got != want {
			t.Errorf("Room of %d: %d, want %d", many, got, want)
		}
	}
	// Nothing but what is kept counts.
	if got := mrl.Room(api.Box{Next: 99, In: full().In, Got: list(48, 0)}); got != 8 {
		t.Errorf("Room where nothing is kept: %d", got)
	}
	if got := mrl.Room(api.Box{Sent: make([]api.Sent, 1<<16)}); got != 0 {
		t.Errorf("Room of a great one: %d", got)
	}
}

func TestExample(t *testing.T) { // P19.3, the chapter's example
	h, l := hail(3), list(7, 0)
	b, frames, err := mrl.Send(mrl.New(), h, l, rules(4, 2))
	first := framed(t, api.Part{From: 3, Pair: h.Pair, Seq: 0, More: true, Items: l[:6]})
	last := framed(t, api.Part{From: 3, Pair: h.Pair, Seq: 1, Items: l[6:]})
	if !slices.Equal(frames, []string{first, last}) || err != api.OK {
		t.Errorf("Send of seven: %q, %d", frames, err)
	}
	want := api.Box{Next: 2, Sent: []api.Sent{{Seq: 0, Bytes: first, Tries: 1, Left: 4}, {Seq: 1, Bytes: last, Tries: 1, Left: 4}}}
	if !like(b, want) {
		t.Errorf("Send of seven: %v, want %v", b, want)
	}
}

func TestSend(t *testing.T) { // P19.3
	// A message of no items is a part of none.
	b, frames, err := mrl.Send(full(), hail(2), nil, rules(9, 1))
	s := framed(t, api.Part{From: 2, Pair: hail(2).Pair, Seq: 5})
	want := full()
	want.Next, want.Sent = 6, append(want.Sent, api.Sent{Seq: 5, Bytes: s, Tries: 1, Left: 9})
	if !like(b, want) || !slices.Equal(frames, []string{s}) || err != api.OK {
		t.Errorf("Send of none: %v, %q, %d, want %v", b, frames, err, want)
	}
	for many := range 49 {
		for kept := range 9 {
			b := full()
			b.Sent, b.Next = sents(row(10, 9+kept)...), 300
			pieces := max(1, (many+5)/6)
			got, frames, err := sends(t, b, hail(many%16), list(many, many), rules(1+many, 3))
			if fits := pieces <= 8-kept; fits != (err == api.OK) || !fits && err != api.ErrFull {
				t.Fatalf("Send of %d where %d are kept: %d", many, kept, err)
			}
			if err == api.OK && (len(frames) != pieces || got.Next != 300+pieces || len(got.Sent) != kept+pieces) {
				t.Fatalf("Send of %d where %d are kept: %d frames, %v", many, kept, len(frames), got)
			}
		}
	}
}

func TestSendOneBehindTheOther(t *testing.T) { // P19.3
	b := mrl.New()
	for i := range 8 {
		got, frames, err := sends(t, b, hail(1), list(i%7, i), rules(2, 2))
		if err != api.OK || len(frames) != 1 || got.Next != i+1 || mrl.Room(got) != 7-i {
			t.Fatalf("Send of the message %d: %v, %d frames, %d", i, got, len(frames), err)
		}
		b = got
	}
	if got, frames, err := sends(t, b, hail(1), nil, rules(2, 2)); !like(got, b) || len(frames) != 0 || err != api.ErrFull {
		t.Errorf("Send of a ninth: %v, %q, %d", got, frames, err)
	}
}

func TestSendErrors(t *testing.T) { // P19.3
	wrong := append(list(20, 0), api.Item{})
	for what, c := range map[string]struct {
		next int
		sent []int
		from int
		l    []api.Item
		r    int
		want api.Errno
	}{
		"too many items":                    {0, nil, 0, list(49, 0), 1, api.ErrLong},
		"too many, wrong ones":              {0, nil, 0, make([]api.Item, 49), 1, api.ErrLong},
		"too many, with no room":            {-1, row(0, 8), 16, list(49, 0), 0, api.ErrLong},
		"a wrong item":                      {0, nil, 0, wrong, 1, api.ErrArg},
		"a wrong item, with no room":        {0, row(0, 7), 0, wrong[20:], 1, api.ErrArg},
		"a wrong item, with too little":     {70000, row(0, 4), 0, wrong, 1, api.ErrArg},
		"no room for a part of none":        {8, row(0, 7), 0, nil, 1, api.ErrFull},
		"more than there is room for":       {9, row(0, 8), 0, nil, 1, api.ErrFull},
		"a piece too many":                  {9, row(1, 6), 0, list(13, 0), 1, api.ErrFull},
		"eight pieces where one is kept":    {9, []int{1}, 0, list(43, 0), 1, api.ErrFull},
		"no room, and all else wrong":       {-1, row(0, 7), 16, nil, 0, api.ErrFull},
		"no room, and no number":            {65000, row(0, 7), 0, nil, 1, api.ErrFull},
		"no number":                         {65000, nil, 0, nil, 1, api.ErrWrap},
		"no number above that":              {65001, nil, 0, nil, 1, api.ErrWrap},
		"no number at the end":              {65535, nil, 0, nil, 1, api.ErrWrap},
		"no number, and no node":            {65000, nil, 16, nil, 0, api.ErrWrap},
		"no number, and one there":          {65000, []int{65000}, 0, nil, 1, api.ErrWrap},
		"no number for the second piece":    {64999, nil, 0, list(7, 0), 1, api.ErrWrap},
		"no number for the eighth piece":    {64993, nil, 0, list(48, 0), 1, api.ErrWrap},
		"a number too great":                {65536, nil, 0, nil, 1, api.ErrArg},
		"a number below 0":                  {-1, nil, 0, nil, 1, api.ErrArg},
		"the least int":                     {math.MinInt, nil, 0, nil, 1, api.ErrArg},
		"the greatest int":                  {math.MaxInt, nil, 0, nil, 1, api.ErrArg},
		"a number too great, and one there": {65536, []int{65536}, 0, nil, 1, api.ErrArg},
		"no node":                           {0, nil, 16, nil, 1, api.ErrArg},
		"a node below 0":                    {0, nil, -1, nil, 1, api.ErrArg},
		"a node in low bytes":               {0, nil, 256, nil, 1, api.ErrArg},
		"no node, and one there":            {4, []int{4}, 16, nil, 1, api.ErrArg},
		"no node, and no second number":     {64999, nil, 16, list(7, 0), 1, api.ErrArg},
		"no ticks":                          {0, nil, 0, nil, 0, api.ErrArg},
		"ticks below 0":                     {0, nil, 0, nil, -1, api.ErrArg},
		"no ticks, and one there":           {4, []int{4}, 0, nil, 0, api.ErrArg},
		"no ticks, and no second number":    {64999, nil, 0, list(7, 0), 0, api.ErrArg},
		"one there":                         {4, []int{4}, 0, nil, 1, api.ErrThere},
		"a greater one there":               {4, []int{1, 60000, 2}, 0, list(20, 0), 1, api.ErrThere},
		"the second one's number there":     {4, []int{5}, 0, list(7, 0), 1, api.ErrThere},
		"one there, and no second number":   {64999, []int{64999}, 0, list(7, 0), 1, api.ErrThere},
	} {
		b := full()
		b.Next, b.Sent = c.next, sents(c.sent...)
		got, frames, err := mrl.Send(b, api.Hello{From: c.from}, c.l, rules(c.r, 3))
		if !like(got, b) || len(frames) != 0 || err != c.want {
			t.Errorf("%s: %v, %q, %d, want %d", what, got, frames, err, c.want)
		}
		if _, _, err := sendOf(b, api.Hello{From: c.from}, c.l, rules(c.r, 3)); err != c.want {
			t.Errorf("%s: sendOf answers %d, want %d", what, err, c.want)
		}
	}
}

func TestSendAtTheEdges(t *testing.T) { // P19.3
	// Just what the chapter names counts: neither the epochs, nor what else the rules say, nor what came.
	h := api.Hello{From: 15}
	b := api.Box{Next: 64999, Sent: sents(-5, 70, 3), In: api.Window{Next: -7}, Got: make([]api.Item, 99)}
	got, frames, err := sends(t, b, h, list(6, 0), api.Rules{Resend: math.MaxInt, Tries: math.MinInt})
	if err != api.OK || len(frames) != 1 || got.Next != 65000 || len(got.Sent) != 4 {
		t.Errorf("Send of the last number: %v, %q, %d", got, frames, err)
	}
	b = api.Box{Next: 64992}
	if got, frames, err := sends(t, b, h, list(48, 0), rules(1, 1)); err != api.OK || len(frames) != 8 || got.Next != 65000 {
		t.Errorf("Send of the last eight: %v, %q, %d", got, frames, err)
	}
	for _, next := range edges {
		for _, many := range []int{0, 6, 7, 48} {
			sends(t, api.Box{Next: next}, h, list(many, 5), rules(1, 1))
		}
		sends(t, mrl.New(), api.Hello{From: next}, list(8, 5), rules(1, 1))
		sends(t, mrl.New(), h, list(8, 5), rules(next, 1))
		sends(t, mrl.New(), h, list(8, 5), rules(3, next))
		sends(t, api.Box{Next: 8, Sent: sents(next)}, h, list(8, 5), rules(3, 2))
	}
}

// anyBox is a session whose parts ahead rise above what is next, by less than there is room for.
func anyBox(r *rand.Rand) api.Box {
	b := api.Box{Next: r.Intn(20), Got: list(r.Intn(20), 3)}
	if r.Intn(5) == 0 {
		b.Next = edges[r.Intn(len(edges))]
		b.Got = list(r.Intn(52), 3)
	}
	for range r.Intn(10) {
		b.Sent = append(b.Sent, sent(r.Intn(12)-3))
	}
	b.In.Next = []int{0, 1, 40, 64995, 65520, 65528, 65531, 65534, 65535, 65536, -1}[r.Intn(11)]
	for i := 1; i < 8 && b.In.Next+i <= 65535; i++ {
		if r.Intn(2) == 0 {
			b.In.Ahead = append(b.In.Ahead, piece(b.In.Next+i, r.Intn(7), r.Intn(2) == 0))
		}
	}
	return b
}

func TestSendOfAny(t *testing.T) { // P19.3
	r := rand.New(rand.NewSource(3))
	count := map[api.Errno]int{}
	for range 30000 {
		l := list(r.Intn(52), r.Intn(100))
		if len(l) > 0 && r.Intn(9) == 0 {
			l[r.Intn(len(l))].Pred = 16
		}
		_, _, err := sends(t, anyBox(r), hail(r.Intn(18)-1), l, rules(r.Intn(9), r.Intn(4)))
		count[err]++
	}
	for _, err := range []api.Errno{api.OK, api.ErrArg, api.ErrLong, api.ErrFull, api.ErrWrap, api.ErrThere} {
		if count[err] < 100 {
			t.Errorf("%d answers of %d: too few to tell much", count[err], err)
		}
	}
}

func TestHear(t *testing.T) { // P19.4
	h := hail(9)
	// The last part of a message, the only one of it.
	b, s, messages, err := mrl.Hear(mrl.New(), h, piece(0, 3, false))
	if !like(b, api.Box{In: api.Window{Next: 1}}) || s != answer(t, h, 1, 0) || !allLike(messages, [][]api.Item{list(3, 0)}) || err != api.OK {
		t.Errorf("Hear of a message: %v, %q, %v, %d", b, s, messages, err)
	}
	// A message of no items is one too.
	b, s, messages, err = mrl.Hear(b, h, piece(1, 0, false))
	if !like(b, api.Box{In: api.Window{Next: 2}}) || s != answer(t, h, 2, 0) || !allLike(messages, [][]api.Item{nil}) || err != api.OK {
		t.Errorf("Hear of a message of none: %v, %q, %v, %d", b, s, messages, err)
	}
	// More follow: nothing is whole.
	b, s, messages, err = mrl.Hear(b, h, piece(2, 4, true))
	if !like(b, api.Box{In: api.Window{Next: 3}, Got: list(4, 2)}) || s != answer(t, h, 3, 0) || len(messages) != 0 || err != api.OK {
		t.Errorf("Hear with more: %v, %q, %v, %d", b, s, messages, err)
	}
	// Ahead of its turn: it is kept, and acknowledged by its bit.
	b, s, messages, err = mrl.Hear(b, h, piece(5, 1, false))
	if want := (api.Box{In: api.Window{Next: 3, Ahead: []api.Part{piece(5, 1, false)}}, Got: list(4, 2)}); !like(b, want) || s != answer(t, h, 3, 4) || len(messages) != 0 || err != api.OK {
		t.Errorf("Hear of one ahead: %v, %q, %v, %d", b, s, messages, err)
	}
	b, s, messages, err = mrl.Hear(b, h, piece(4, 2, false))
	if s != answer(t, h, 3, 6) || len(b.In.Ahead) != 2 || len(messages) != 0 || err != api.OK {
		t.Errorf("Hear of another one ahead: %v, %q, %v, %d", b, s, messages, err)
	}
	// The gap is filled: the message that was gathered is whole, and two behind it.
	b, s, messages, err = mrl.Hear(b, h, piece(3, 2, false))
	want := [][]api.Item{append(list(4, 2), list(2, 3)...), list(2, 4), list(1, 5)}
	if !like(b, api.Box{In: api.Window{Next: 6}}) || s != answer(t, h, 6, 0) || !allLike(messages, want) || err != api.OK {
		t.Errorf("Hear of the gap: %v, %q, %v, %d, want %v", b, s, messages, err, want)
	}
}

func TestHearInTheMidst(t *testing.T) { // P19.4
	h := hail(0)
	// 5 leaves 6 open, and all else as it is.
	want := full()
	want.In.Next, want.Got = 6, append(list(9, 40), list(6, 5)...)
	if b, s, messages, err := mrl.Hear(full(), h, piece(5, 6, true)); !like(b, want) || s != answer(t, h, 6, 38) || len(messages) != 0 || err != api.OK {
		t.Errorf("Hear of 5: %v, %q, %v, %d", b, s, messages, err)
	}
	// 5 is whole with what was gathered.
	want.Got = nil
	if b, _, messages, err := mrl.Hear(full(), h, piece(5, 1, false)); !like(b, want) || !allLike(messages, [][]api.Item{append(list(9, 40), told(5))}) || err != api.OK {
		t.Errorf("Hear of the last 5: %v, %v, %d", b, messages, err)
	}
	// 5 and 6: what is behind is let out too, and 11 stays ahead.
	b, _, _, _ := mrl.Hear(full(), h, piece(5, 1, false))
	b, s, messages, err := mrl.Hear(b, h, piece(6, 3, true))
	want.In = api.Window{Next: 9, Ahead: []api.Part{piece(11, 6, false)}}
	if !like(b, want) || s != answer(t, h, 9, 4) || !allLike(messages, [][]api.Item{append(list(3, 6), list(2, 7)...)}) || err != api.OK {
		t.Errorf("Hear of 6: %v, %q, %v, %d", b, s, messages, err)
	}
}

func TestHearOfOldOnes(t *testing.T) { // P19.4
	// What is known is acknowledged once more, in h's session, and changes nothing.
	h := hail(12)
	for _, p := range []api.Part{piece(0, 2, false), piece(4, 2, true), piece(7, 2, true), piece(8, 5, false), piece(11, 0, true)} {
		b, s, messages, err := mrl.Hear(full(), h, p)
		if !like(b, full()) || s != answer(t, h, 5, 4+8+64) || len(messages) != 0 || err != api.ErrOld {
			t.Errorf("Hear of the old %d: %v, %q, %v, %d", p.Seq, b, s, messages, err)
		}
		// Nothing is let out, so that it can't be too long.
		b = full()
		b.Got = list(49, 0)
		if got, s, _, err := mrl.Hear(b, h, p); !like(got, b) || s == "" || err != api.ErrOld {
			t.Errorf("Hear of the old %d behind too many: %v, %q, %d", p.Seq, got, s, err)
		}
		// An ack that can't be made is another error.
		if b, s, messages, err := mrl.Hear(full(), api.Hello{From: 16}, p); !like(b, full()) || s != "" || len(messages) != 0 || err != api.ErrArg {
			t.Errorf("Hear of the old %d by no node: %v, %q, %v, %d", p.Seq, b, s, messages, err)
		}
	}
}

func TestHearErrors(t *testing.T) { // P19.4
	noNode, wrongItem, many := piece(5, 1, false), piece(5, 1, false), piece(5, 7, false)
	noNode.From, wrongItem.Items[0].Kind = 16, 3
	for what, c := range map[string]struct {
		next int
		got  int
		from int
		p    api.Part
		want api.Errno
	}{
		"a part of no node":              {5, 9, 0, noNode, api.ErrArg},
		"a part with a wrong item":       {5, 9, 0, wrongItem, api.ErrArg},
		"a part with too many":           {5, 9, 0, many, api.ErrArg},
		"a number below 0":               {5, 9, 0, piece(-1, 1, false), api.ErrArg},
		"a number too great":             {5, 9, 0, piece(65536, 1, false), api.ErrArg},
		"a window's number below 0":      {-1, 9, 0, piece(0, 1, false), api.ErrArg},
		"a window's number too great":    {65536, 9, 0, piece(65535, 1, false), api.ErrArg},
		"too far ahead":                  {5, 9, 0, piece(13, 1, false), api.ErrFull},
		"too far, and nothing else fits": {5, 49, 16, piece(13, 1, false), api.ErrFull},
		"too many together":              {5, 48, 0, piece(5, 1, false), api.ErrLong},
		"too many, and more":             {5, 43, 0, piece(5, 6, true), api.ErrLong},
		"too many of its own":            {5, 49, 0, piece(5, 0, false), api.ErrLong},
		"too many, and no node":          {5, 48, 16, piece(5, 1, false), api.ErrLong},
		"no node":                        {5, 9, 16, piece(5, 1, false), api.ErrArg},
		"a node below 0":                 {5, 9, -1, piece(5, 1, true), api.ErrArg},
		"no node, and one ahead":         {5, 9, 16, piece(6, 1, true), api.ErrArg},
		"behind the last number":         {65535, 9, 0, piece(65535, 1, false), api.ErrArg},
		"too many behind the last":       {65535, 48, 0, piece(65535, 1, false), api.ErrLong},
	} {
		b := full()
		b.In.Next, b.Got = c.next, list(c.got, 7)
		if c.next != 5 {
			b.In.Ahead = nil
		}
		got, s, messages, err := mrl.Hear(b, api.Hello{From: c.from}, c.p)
		if !like(got, b) || s != "" || len(messages) != 0 || err != c.want {
			t.Errorf("%s: %v, %q, %v, %d, want %d", what, got, s, messages, err, c.want)
		}
	}
	// 48 together are not too many.
	b := full()
	b.Got = list(42, 7)
	if _, _, messages, err := mrl.Hear(b, hail(0), piece(5, 6, false)); len(messages) != 1 || len(messages[0]) != 48 || err != api.OK {
		t.Errorf("48 together: %v, %d", messages, err)
	}
}

func TestHearOfTooManyBehind(t *testing.T) { // P19.4
	// The first message is whole, but what is let out behind it is too long: all is as it was, and nothing is told.
	b := api.Box{Next: 3, Sent: sents(2)}
	for seq := 1; seq <= 7; seq++ {
		b.In.Ahead = append(b.In.Ahead, piece(seq, 6, true))
	}
	b.In.Ahead = append(b.In.Ahead, piece(8, 6, true), piece(9, 1, true))
	got, s, messages, err := mrl.Hear(b, hail(0), piece(0, 6, false))
	if !like(got, b) || s != "" || len(messages) != 0 || err != api.ErrLong {
		t.Errorf("Hear: %v, %q, %v, %d", got, s, messages, err)
	}
	b.In.Ahead = b.In.Ahead[:8]
	if got, s, messages, err := hears(t, b, hail(0), piece(0, 6, false)); len(got.Got) != 48 || s == "" || len(messages) != 1 || err != api.OK {
		t.Errorf("Hear of 48 behind: %v, %q, %v, %d", got, s, messages, err)
	}
}

func TestHearOfAny(t *testing.T) { // P19.4
	r := rand.New(rand.NewSource(4))
	count := map[api.Errno]int{}
	for range 40000 {
		b := anyBox(r)
		p := piece(b.In.Next+r.Intn(12)-2, r.Intn(8), r.Intn(2) == 0)
		if r.Intn(9) == 0 {
			p.Seq = edges[r.Intn(len(edges))]
		}
		if r.Intn(3) == 0 {
			p.Seq = b.In.Next
		}
		h := hail(3)
		if r.Intn(9) == 0 {
			h.From = edges[r.Intn(len(edges))]
		}
		_, _, _, err := hears(t, b, h, p)
		count[err]++
	}
	for _, err := range []api.Errno{api.OK, api.ErrArg, api.ErrLong, api.ErrFull, api.ErrOld} {
		if count[err] < 100 {
			t.Errorf("%d answers of %d: too few to tell much", count[err], err)
		}
	}
}

func TestAcked(t *testing.T) { // P19.5
	for _, c := range []struct {
		sent       []int
		next, bits int
		left       []int
		many       int
	}{
		{nil, 9, 255, nil, 0},
		{row(0, 7), 0, 0, row(0, 7), 0},
		{row(0, 7), 3, 0, row(3, 7), 3},
		{row(0, 7), 8, 0, nil, 8},
		{row(0, 7), 8, 255, nil, 8},
		{row(0, 7), 0, 255, nil, 8},
		{row(0, 7), 2, 4, []int{2, 3, 5, 6, 7}, 3},
		{[]int{1, 3, 4}, 3, 2, []int{3}, 2},
		{[]int{64990, 64999}, 64990, 0, []int{64990, 64999}, 0},
		{[]int{64999}, 65000, 0, nil, 1},
		{row(0, 7), -1, 255, row(0, 7), 0},
		{row(0, 7), math.MaxInt, 0, nil, 8},
		{row(0, 7), math.MinInt, 255, row(0, 7), 0},
	} {
		b := full()
		b.Sent = sents(c.sent...)
		want := deep(b)
		want.Sent = sents(c.left...)
		// Whose ack it is, and of which session, is not asked here.
		for _, a := range []api.Ack{{Next: c.next, Bits: c.bits}, {From: -9, Pair: hail(3).Pair, Next: c.next, Bits: c.bits}} {
			if got, many := mrl.Acked(b, a); !like(got, want) || many != c.many {
				t.Errorf("Acked of %v by %v: %v, %d, want %v, %d", c.sent, a, got, many, want, c.many)
			}
		}
	}
}

func TestTick(t *testing.T) { // P19.6
	b := full()
	b.Sent = []api.Sent{{Seq: 1, Bytes: "a", Tries: 1, Left: 2}, {Seq: 2, Bytes: "b", Tries: 2, Left: 1}, {Seq: 3, Bytes: "c", Tries: 1, Left: 1}, {Seq: 4, Bytes: "d", Tries: 3, Left: 9}}
	want := deep(b)
	want.Sent = []api.Sent{{Seq: 1, Bytes: "a", Tries: 1, Left: 1}, {Seq: 2, Bytes: "b", Tries: 3, Left: 5}, {Seq: 3, Bytes: "c", Tries: 2, Left: 5}, {Seq: 4, Bytes: "d", Tries: 3, Left: 8}}
	if got, again, dead := mrl.Tick(b, rules(5, 3)); !like(got, want) || !slices.Equal(again, []string{"b", "c"}) || dead {
		t.Errorf("Tick: %v, %q, %t", got, again, dead)
	}
	// One was sent often enough: the session is dead, and the others go on.
	want.Sent[1] = b.Sent[1]
	if got, again, dead := mrl.Tick(b, rules(5, 2)); !like(got, want) || !slices.Equal(again, []string{"c"}) || !dead {
		t.Errorf("Tick of a dead one: %v, %q, %t", got, again, dead)
	}
	b.Sent = nil
	if got, again, dead := mrl.Tick(b, api.Rules{}); !like(got, b) || len(again) != 0 || dead {
		t.Errorf("Tick where nothing is kept: %v, %q, %t", got, again, dead)
	}
}

func TestTicksTillDead(t *testing.T) { // P19.6
	b, frames, _ := mrl.Send(mrl.New(), hail(4), list(13, 0), rules(3, 4))
	for tick := 1; tick <= 12; tick++ {
		got, again, dead := mrl.Tick(b, rules(3, 4))
		if dead != (tick == 12) {
			t.Fatalf("tick %d: %t", tick, dead)
		}
		if due := tick%3 == 0 && tick < 12; due && !slices.Equal(again, frames) || !due && len(again) != 0 {
			t.Fatalf("tick %d: %d frames are sent again", tick, len(again))
		}
		b = got
	}
}

func TestIdle(t *testing.T) { // P19.7
	for _, c := range []struct {
		b    api.Box
		want bool
	}{
		{mrl.New(), true},
		{api.Box{Next: 7, In: api.Window{Next: 9}}, true},
		{api.Box{Sent: []api.Sent{}, In: api.Window{Ahead: []api.Part{}}, Got: []api.Item{}}, true},
		{api.Box{Next: 1, Sent: make([]api.Sent, 1)}, false},
		{api.Box{In: api.Window{Ahead: make([]api.Part, 1)}}, false},
		{api.Box{Got: make([]api.Item, 1)}, false},
		{full(), false},
	} {
		if got := mrl.Idle(c.b); got != c.want {
			t.Errorf("Idle of %v: %t", c.b, got)
		}
	}
}

// others are sessions each unlike full in one thing.
func others() []api.Box {
	var l []api.Box
	for _, change := range []func(*api.Box){
		func(b *api.Box) { b.Next++ },
		func(b *api.Box) { b.Sent = b.Sent[:2] },
		func(b *api.Box) { b.Sent = append(b.Sent, sent(5)) },
		func(b *api.Box) { b.Sent[0], b.Sent[1] = b.Sent[1], b.Sent[0] },
		func(b *api.Box) { b.Sent[1].Seq++ },
		func(b *api.Box) { b.Sent[1].Bytes += "x" },
		func(b *api.Box) { b.Sent[1].Tries++ },
		func(b *api.Box) { b.Sent[2].Left++ },
		func(b *api.Box) { b.In.Next++ },
		func(b *api.Box) { b.In.Ahead = b.In.Ahead[:2] },
		func(b *api.Box) { b.In.Ahead = b.In.Ahead[1:] },
		func(b *api.Box) { b.In.Ahead[0], b.In.Ahead[1] = b.In.Ahead[1], b.In.Ahead[0] },
		func(b *api.Box) { b.In.Ahead[1].From++ },
		func(b *api.Box) { b.In.Ahead[1].Pair.Theirs.Local++ },
		func(b *api.Box) { b.In.Ahead[1].Seq++ },
		func(b *api.Box) { b.In.Ahead[2].More = true },
		func(b *api.Box) { b.In.Ahead[2].Items = b.In.Ahead[2].Items[:5] },
		func(b *api.Box) { b.In.Ahead[2].Items[5].Dist++ },
		func(b *api.Box) { b.Got = b.Got[:8] },
		func(b *api.Box) { b.Got = nil },
		func(b *api.Box) { b.Got[0].Dest++ },
		func(b *api.Box) { b.Got[8].Pred++ },
		func(b *api.Box) { b.Got[3], b.Got[4] = b.Got[4], b.Got[3] },
	} {
		b := full()
		change(&b)
		l = append(l, b)
	}
	return l
}

func TestSame(t *testing.T) { // P19.8
	for i, b := range append(others(), mrl.New()) {
		if mrl.Same(b, full()) || mrl.Same(full(), b) {
			t.Errorf("the other one of number %d is the same", i)
		}
		if !mrl.Same(b, deep(b)) || !mrl.Same(b, b) {
			t.Errorf("the other one of number %d is not the same as itself", i)
		}
	}
	// nil and empty lists are the same.
	empty := api.Box{Sent: []api.Sent{}, In: api.Window{Ahead: []api.Part{}}, Got: []api.Item{}}
	if !mrl.Same(mrl.New(), empty) || !mrl.Same(empty, mrl.New()) {
		t.Error("an empty one is not as a new one")
	}
	a, b := full(), full()
	a.In.Ahead[1].Items, b.In.Ahead[1].Items = nil, []api.Item{}
	if !mrl.Same(a, b) {
		t.Error("a part of no items is not as one of an empty list")
	}
}

// flight is a frame on its way, to the end of that number.
type flight struct {
	to    int
	bytes string
}

// line is two ends of a session, and what is on its way between them.
type line struct {
	t     *testing.T
	r     *rand.Rand
	ends  [2]api.Box
	hails [2]api.Hello
	said  [2][][]api.Item // what each end sent
	heard [2][][]api.Item // what came out at each end
	air   []flight
}

// newLine is a line on which nothing was sent.
func newLine(t *testing.T, seed int64) *line {
	n := &line{t: t, r: rand.New(rand.NewSource(seed)), ends: [2]api.Box{mrl.New(), mrl.New()}, hails: [2]api.Hello{hail(1), {From: 6}}}
	n.hails[1].Pair = api.Pair{Mine: n.hails[0].Pair.Theirs, Theirs: n.hails[0].Pair.Mine}
	return n
}

// forever are rules by which no session is dead.
var forever = rules(3, math.MaxInt)

// say sends a message from that end, if there is room for it.
func (n *line) say(end int) {
	l := list(n.r.Intn(49), n.r.Intn(1000))
	if n.r.Intn(2) == 0 {
		l = l[:min(len(l), 7)]
	}
	got, frames, err := mrl.Send(n.ends[end], n.hails[end], l, forever)
	if err != api.OK && err != api.ErrFull && err != api.ErrWrap {
		n.t.Fatalf("Send: %d", err)
	}
	if err == api.OK {
		n.said[end] = append(n.said[end], l)
	}
	n.ends[end] = got
	n.put(1-end, frames...)
}

// put puts frames on their way to that end.
func (n *line) put(to int, frames ...string) {
	for _, s := range frames {
		n.air = append(n.air, flight{to, s})
	}
}

// tick is a tick of that end.
func (n *line) tick(end int) {
	got, again, dead := mrl.Tick(n.ends[end], forever)
	if dead {
		n.t.Fatal("dead")
	}
	n.ends[end] = got
	n.put(1-end, again...)
}

// come brings the frame of that number, which is left in the air, if it comes twice.
func (n *line) come(at int, twice bool) {
	f := n.air[at]
	if !twice {
		n.air = slices.Delete(n.air, at, at+1)
	}
	kind, body, err := frame.Open(f.bytes)
	if err != api.OK {
		n.t.Fatalf("Open: %d", err)
	}
	if kind == api.KindAck {
		a, _ := acks.Read(body)
		n.ends[f.to], _ = mrl.Acked(n.ends[f.to], a)
		return
	}
	p, err := part.Read(body)
	if kind != api.KindPart || err != api.OK {
		n.t.Fatalf("Read of a frame of kind %d: %d", kind, err)
	}
	got, s, messages, err := mrl.Hear(n.ends[f.to], n.hails[f.to], p)
	if err != api.OK && err != api.ErrOld && err != api.ErrFull {
		n.t.Fatalf("Hear: %d", err)
	}
	n.ends[f.to] = got
	if s != "" {
		n.put(1-f.to, s)
	}
	n.heard[f.to] = append(n.heard[f.to], messages...)
}

// step is one thing that happens: frames are lost, come, come twice, in any order, with that many percent lost.
func (n *line) step(lost int) {
	switch at := n.r.Intn(len(n.air) + 1); {
	case n.r.Intn(8) == 0:
		n.say(n.r.Intn(2))
	case n.r.Intn(4) == 0:
		n.tick(n.r.Intn(2))
	case at == len(n.air):
	case n.r.Intn(100) < lost:
		n.air = slices.Delete(n.air, at, at+1)
	default:
		n.come(at, n.r.Intn(5) == 0)
	}
}

// begun looks whether what came out at each end is how what the other one sent begins.
func (n *line) begun() {
	n.t.Helper()
	for end, heard := range n.heard {
		said := n.said[1-end]
		if len(heard) > len(said) || !allLike(heard, said[:len(heard)]) {
			n.t.Fatalf("end %d heard %v, of %v", end, heard, said)
		}
	}
}

// settle brings all that is on its way, and sends again what is not acknowledged, till nothing happens any more.
func (n *line) settle() {
	n.t.Helper()
	for range 100 {
		for len(n.air) > 0 {
			n.come(n.r.Intn(len(n.air)), false)
		}
		n.tick(0)
		n.tick(1)
	}
	n.begun()
	for end, b := range n.ends {
		if !mrl.Idle(b) || mrl.Room(b) != 8 || len(n.heard[end]) != len(n.said[1-end]) || b.Next != n.ends[1-end].In.Next {
			n.t.Fatalf("end %d at rest: %v, heard %d of %d", end, b, len(n.heard[end]), len(n.said[1-end]))
		}
	}
}

func TestWhateverIsLost(t *testing.T) { // P19.9
	for seed := range int64(60) {
		n := newLine(t, seed)
		lost := []int{0, 10, 40, 70}[seed%4]
		for i := range 1200 {
			n.step(lost)
			if i%20 == 0 {
				n.begun()
			}
		}
		n.begun()
		if len(n.said[0]) < 15 || len(n.said[1]) < 15 {
			t.Fatalf("%d and %d messages were sent: too few to tell much", len(n.said[0]), len(n.said[1]))
		}
		n.settle()
		// From rest it goes on.
		for range 200 {
			n.step(lost)
		}
		n.settle()
	}
}

func TestNothingComes(t *testing.T) { // P19.9
	n := newLine(t, 9)
	for range 300 {
		n.step(100)
	}
	if n.begun(); len(n.heard[0])+len(n.heard[1]) != 0 || mrl.Idle(n.ends[0]) || mrl.Idle(n.ends[1]) {
		t.Errorf("where nothing comes: %v", n.ends)
	}
	n.settle()
}

func TestUpToTheLastNumber(t *testing.T) { // P19.9
	n := newLine(t, 10)
	for i := range 65000 {
		l := list(i%7, i%1000)
		got, frames, err := mrl.Send(n.ends[0], n.hails[0], l, forever)
		if err != api.OK || len(frames) != 1 || got.Next != i+1 {
			t.Fatalf("Send of %d: %v, %d", i, got, err)
		}
		n.ends[0], n.heard[1] = got, nil
		n.put(1, frames...)
		for len(n.air) > 0 {
			n.come(0, false)
		}
		if !mrl.Idle(n.ends[0]) || !mrl.Idle(n.ends[1]) || !allLike(n.heard[1], [][]api.Item{l}) {
			t.Fatalf("the message %d: %v, heard %v", i, n.ends, n.heard[1])
		}
	}
	for range 3 {
		if got, frames, err := mrl.Send(n.ends[0], n.hails[0], nil, forever); !like(got, n.ends[0]) || len(frames) != 0 || err != api.ErrWrap {
			t.Errorf("Send behind the last number: %v, %q, %d", got, frames, err)
		}
	}
}

// room is l with more behind its end.
func room[T any](l []T, more T) []T {
	return append(slices.Clone(l), more, more, more)[:len(l)]
}

// held is full with room behind the end of each of its lists, and with a number that is next there.
func held(next int) api.Box {
	b := full()
	b.In.Next = next
	for i, p := range b.In.Ahead {
		b.In.Ahead[i].Items = room(p.Items, told(77))
	}
	b.Sent, b.In.Ahead, b.Got = room(b.Sent, sent(77)), room(b.In.Ahead, piece(77, 3, true)), room(b.Got, told(77))
	return b
}

// whole is b with all that lies in the rooms behind the ends of its lists.
func whole(b api.Box) api.Box {
	b.Sent, b.In.Ahead, b.Got = b.Sent[:cap(b.Sent)], b.In.Ahead[:cap(b.In.Ahead)], b.Got[:cap(b.Got)]
	b.In.Ahead = slices.Clone(b.In.Ahead)
	for i, p := range b.In.Ahead {
		b.In.Ahead[i].Items = p.Items[:cap(p.Items)]
	}
	return deep(b)
}

// answered is all that a call answers that has lists.
type answered struct {
	b        api.Box
	texts    []string
	messages [][]api.Item
}

// listed is a list: what it has (of lists in it how long they are), and what writes over it and over the room behind its end.
type listed struct {
	now  func() string
	fill func()
}

// listOf is l as such, where what it has is shown by show.
func listOf[T any](l []T, x T, show func(T) string) listed {
	now := func() string {
		var all []string
		for _, x := range l {
			all = append(all, show(x))
		}
		return strings.Join(all, "; ")
	}
	fill := func() {
		room := l[:cap(l)]
		for i := range room {
			room[i] = x
		}
	}
	return listed{now, fill}
}

// items is l as such.
func items(l []api.Item) listed {
	return listOf(l, told(99), func(x api.Item) string { return fmt.Sprint(x) })
}

// lists is all the lists of a.
func (a answered) lists() []listed {
	all := []listed{items(a.b.Got)}
	all = append(all, listOf(a.b.Sent, sent(99), func(s api.Sent) string { return fmt.Sprint(s) }))
	all = append(all, listOf(a.texts, "zz", func(s string) string { return s }))
	all = append(all, listOf(a.b.In.Ahead, piece(99, 1, true), func(p api.Part) string { return fmt.Sprint(p.Seq, len(p.Items)) }))
	all = append(all, listOf(a.messages, nil, func(l []api.Item) string { return fmt.Sprint(len(l)) }))
	for _, p := range a.b.In.Ahead {
		all = append(all, items(p.Items))
	}
	for _, l := range a.messages {
		all = append(all, items(l))
	}
	return all
}

// shares looks whether a list of what call answers shares memory with another one.
func shares(t *testing.T, what string, call func() answered) {
	t.Helper()
	for i := range call().lists() {
		all := call().lists()
		var was []string
		for _, l := range all {
			was = append(was, l.now())
		}
		all[i].fill()
		for j, l := range all {
			if j != i && l.now() != was[j] {
				t.Errorf("%s: list %d shares memory with list %d of the answer", what, i, j)
			}
		}
	}
}

// calls are calls to each end, by what they do.
func calls() map[string]func(b api.Box, l []api.Item) answered {
	send := func(from, resend int) func(b api.Box, l []api.Item) answered {
		return func(b api.Box, l []api.Item) answered {
			got, frames, _ := mrl.Send(b, api.Hello{From: from}, l, rules(resend, 2))
			return answered{b: got, texts: frames}
		}
	}
	hear := func(from, seq int, more bool) func(b api.Box, l []api.Item) answered {
		return func(b api.Box, l []api.Item) answered {
			p := piece(seq, 0, more)
			p.Items = l
			got, _, messages, _ := mrl.Hear(b, api.Hello{From: from}, p)
			return answered{b: got, messages: messages}
		}
	}
	return map[string]func(b api.Box, l []api.Item) answered{
		"Send": send(3, 4), "Send of no node": send(16, 4), "Send without ticks": send(3, 0),
		"Hear of the last 5": hear(3, 5, false), "Hear of 5": hear(3, 5, true), "Hear of the last 6": hear(3, 6, false), "Hear of 6": hear(3, 6, true),
		"Hear of an old one": hear(3, 2, false), "Hear of one there": hear(3, 7, false), "Hear of one ahead": hear(3, 9, true), "Hear of a far one": hear(3, 40, true), "Hear of no node": hear(16, 6, false),
		"Acked of some": func(b api.Box, l []api.Item) answered {
			got, _ := mrl.Acked(b, api.Ack{Next: 3})
			return answered{b: got}
		},
		"Acked of none": func(b api.Box, l []api.Item) answered {
			got, _ := mrl.Acked(b, api.Ack{})
			return answered{b: got}
		},
		"Tick": func(b api.Box, l []api.Item) answered {
			got, again, _ := mrl.Tick(b, rules(3, 9))
			return answered{b: got, texts: again}
		},
		"Idle, Room and Same": func(b api.Box, l []api.Item) answered {
			mrl.Idle(b)
			mrl.Room(b)
			mrl.Same(b, b)
			return answered{}
		},
	}
}

func TestMemory(t *testing.T) { // R3
	for what, call := range calls() {
		for _, next := range []int{5, 6} {
			for _, many := range []int{0, 3, 6, 13} {
				b, l := held(next), room(list(many, 20), told(78))
				was, wasL := whole(b), slices.Clone(l[:cap(l)])
				shares(t, what, func() answered { return call(b, l) })
				// By now each list of an answer was written over.
				if !like(whole(b), was) || !slices.Equal(l[:cap(l)], wasL) {
					t.Errorf("%s to %d with %d: what was handed in was changed, or an answer shares its memory", what, next, many)
				}
			}
		}
	}
}

func TestSharedLists(t *testing.T) { // R3
	// What is handed in may share lists within itself; what is answered may not.
	l := list(6, 5)
	b := full()
	b.Got = l
	for i := range b.In.Ahead {
		b.In.Ahead[i].Items = l
	}
	was := deep(b)
	for what, call := range calls() {
		shares(t, what, func() answered { return call(b, l) })
		if !like(b, was) {
			t.Fatalf("%s: what was handed in was changed, or an answer shares its memory", what)
		}
	}
}

func TestTwoOfOne(t *testing.T) { // P19.3, P19.4, R3
	// Two sessions that came of one grow apart.
	b, _, _ := mrl.Send(full(), hail(1), list(2, 0), rules(2, 2))
	x, one, _ := mrl.Send(b, hail(1), list(1, 50), rules(2, 2))
	y, two, _ := mrl.Send(b, hail(1), list(1, 60), rules(2, 2))
	if len(x.Sent) != 5 || x.Sent[4].Bytes != one[0] || len(y.Sent) != 5 || y.Sent[4].Bytes != two[0] || one[0] == two[0] {
		t.Errorf("two that sent: %v, %v", x, y)
	}
	b, _, _, _ = mrl.Hear(full(), hail(1), piece(5, 1, true))
	x, _, _, _ = mrl.Hear(b, hail(1), piece(9, 1, true))
	y, _, _, _ = mrl.Hear(b, hail(1), piece(10, 1, true))
	if len(x.In.Ahead) != 4 || x.In.Ahead[2].Seq != 9 || len(y.In.Ahead) != 4 || y.In.Ahead[2].Seq != 10 {
		t.Errorf("two that heard: %v, %v", x, y)
	}
}

func TestWildOnes(t *testing.T) { // R1
	var b api.Box
	b.In.Next, b.Got = 3, make([]api.Item, 1<<16)
	for i := range 1 << 16 {
		b.In.Ahead = append(b.In.Ahead, api.Part{Seq: i + 4})
		b.Sent = append(b.Sent, api.Sent{Seq: math.MinInt + i, Tries: math.MaxInt, Left: math.MinInt})
	}
	if got, s, messages, err := mrl.Hear(b, hail(1), piece(3, 1, false)); !like(got, b) || s != "" || len(messages) != 0 || err != api.ErrLong {
		t.Errorf("Hear of a great one: %q, %d messages, %d", s, len(messages), err)
	}
	b.Got = nil
	if got, s, messages, err := mrl.Hear(b, hail(1), piece(3, 1, false)); !like(got, b) || s != "" || len(messages) != 0 || err != api.ErrArg {
		t.Errorf("Hear of a great one that leaves the numbers: %q, %d messages, %d", s, len(messages), err)
	}
	if got, frames, err := mrl.Send(b, hail(1), nil, rules(1, 1)); !like(got, b) || len(frames) != 0 || err != api.ErrFull {
		t.Errorf("Send of a great one: %d frames, %d", len(frames), err)
	}
	if got, frames, err := mrl.Send(b, hail(1), make([]api.Item, 1<<16), rules(1, 1)); !like(got, b) || len(frames) != 0 || err != api.ErrLong {
		t.Errorf("Send of a great message: %d frames, %d", len(frames), err)
	}
	if got, again, dead := mrl.Tick(b, rules(1, 1)); !like(got, b) || len(again) != 0 || !dead {
		t.Errorf("Tick of a great one: %d frames, %t", len(again), dead)
	}
	if got, many := mrl.Acked(b, api.Ack{}); len(got.Sent) != 0 || many != 1<<16 {
		t.Errorf("Acked of a great one: %d", many)
	}
	if mrl.Idle(b) || !mrl.Same(b, b) || mrl.Room(b) != 0 {
		t.Error("of a great one")
	}
}

// FuzzMrl holds what the calls say of any session against the chapter's words (P19.2 to P19.8).
func FuzzMrl(f *testing.F) {
	f.Add([]byte{}, 0, 0, 0, 0, 0, false)
	f.Add([]byte("seven items here"), 64999, 5, 7, 3, 2, true)
	f.Add(make([]byte, 49), 65535, 65535, 65535, 16, math.MinInt, false)
	f.Fuzz(func(t *testing.T, bytes []byte, next, in, seq, from, resend int, more bool) {
		b := api.Box{Next: next, In: api.Window{Next: in}}
		var l []api.Item
		for i, x := range bytes[:min(len(bytes), 60)] {
			l = append(l, told(int(x)))
			if x%8 == 1 {
				b.Sent = append(b.Sent, sent(next-1-int(x/8)%4))
			}
			if ahead := len(b.In.Ahead) + 1 + i%2; x%8 == 2 && ahead < 8 && in >= 0 && in+ahead <= 65535 && (len(b.In.Ahead) == 0 || b.In.Ahead[len(b.In.Ahead)-1].Seq < in+ahead) {
				b.In.Ahead = append(b.In.Ahead, piece(in+ahead, int(x/8)%7, x > 127))
			}
		}
		h := hail(3)
		h.From = from
		sends(t, b, h, l, rules(resend, 2))
		b.Got = l
		for _, p := range []api.Part{piece(seq, len(l)%8, more), piece(in, len(l)%7, more)} {
			hears(t, b, h, p)
			got, _, _, _ := hears(t, b, hail(4), p)
			if mrl.Same(b, got) != like(b, got) || mrl.Idle(got) != (len(got.Sent)+len(got.In.Ahead)+len(got.Got) == 0) {
				t.Fatalf("Same, or Idle, of %v and %v", b, got)
			}
		}
		a := api.Ack{From: from, Next: seq, Bits: resend}
		left, many := mrl.Acked(b, a)
		if len(left.Sent)+many != len(b.Sent) || slices.ContainsFunc(left.Sent, func(s api.Sent) bool { return acks.Has(a, s.Seq) }) {
			t.Fatalf("Acked of %v by %v: %v, %d", b, a, left, many)
		}
		mrl.Tick(b, rules(resend, from))
	})
}
