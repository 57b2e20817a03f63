package link_test

import (
	"math"
	"math/rand"
	"slices"
	"strconv"
	"strings"
	"testing"

	"fingerpost/acks"
	"fingerpost/api"
	"fingerpost/frame"
	"fingerpost/hello"
	"fingerpost/link"
	"fingerpost/mrl"
	"fingerpost/part"
)

const (
	top   = math.MaxUint32
	self  = 1 // the node at whose ends most tests look
	peer  = 6 // the node at the other ends
	clock = 4 // the Wait of an end that full makes
	still = 7 // and its Quiet
)

// none is the epoch of no session.
var none api.Epoch

// rules are those of most tests.
var rules = api.Rules{Hello: 5, Dead: 20, Resend: 3, Tries: 2}

// states are those that there are, and numbers that are none.
var states = []int{api.StateOff, api.StateTrying, api.StateUp, -1, 3, 255, 256, 258, 1 << 32, 1<<32 + 2, math.MinInt, math.MaxInt}

// epochs are none, and some that are older and newer by either number.
var epochs = []api.Epoch{none, of(0, 1), of(0, top), of(1, 0), of(1, 9), of(2, 0), of(2, 1), of(1<<31, 0), of(top, 0), of(top, top)}

// senders are nodes, and numbers that are none, some of which have a node in their lowest byte.
var senders = []int{0, 1, 15, 16, 17, 256, 259, -1, -16, 1<<32 + 3, math.MinInt, math.MaxInt}

// counts are numbers of ticks, with those at the ends of int.
var counts = []int{math.MinInt, -1, 0, 1, 2, 3, 4, 19, 20, 21, 1 << 32, math.MaxInt}

// of is an epoch of two numbers.
func of(boot, local uint32) api.Epoch {
	return api.Epoch{Boot: boot, Local: local}
}

// pair is a pair of two epochs.
func pair(mine, theirs api.Epoch) api.Pair {
	return api.Pair{Mine: mine, Theirs: theirs}
}

// says is a hello of a node and two epochs.
func says(from int, mine, theirs api.Epoch) api.Hello {
	return api.Hello{From: from, Pair: pair(mine, theirs)}
}

// told is the item of that number, which is right.
func told(n int) api.Item {
	return api.Item{Dest: n % 16, Kind: n % 3, Dist: uint32(100 + n), Pred: (n + 1) % 16}
}

// list is so many items, from that number on.
func list(many, from int) []api.Item {
	var l []api.Item
	for i := range many {
		l = append(l, told(from+i))
	}
	return l
}

// piece is a part of the other end of full's session, with that number, and that many items.
func piece(seq, items int, more bool) api.Part {
	return api.Part{From: peer, Pair: pair(of(2, 0), of(1, 9)), Seq: seq, More: more, Items: list(items, seq)}
}

// box is a session in the midst of all: of the parts of the other one the sixth is waited for.
func box() api.Box {
	return api.Box{
		Next: 5,
		Sent: []api.Sent{{Seq: 3, Bytes: "three", Tries: 1, Left: 1}, {Seq: 4, Bytes: "four", Tries: 1, Left: 6}},
		In:   api.Window{Next: 6, Ahead: []api.Part{piece(7, 2, false), piece(9, 3, true)}},
		Got:  list(4, 30),
	}
}

// full is an end with something in each of its fields, and a session of the epochs 1.9 and 2.0.
func full(state int) api.Port {
	return api.Port{State: state, Mine: of(1, 9), Theirs: of(2, 0), Quiet: still, Wait: clock, Box: box()}
}

// between is full with these epochs.
func between(state int, mine, theirs api.Epoch) api.Port {
	p := full(state)
	p.Mine, p.Theirs = mine, theirs
	return p
}

// alike tells by the fields whether a and b are the same part.
func alike(a, b api.Part) bool {
	return a.From == b.From && a.Pair == b.Pair && a.Seq == b.Seq && a.More == b.More && slices.Equal(a.Items, b.Items)
}

// likeBox tells by the fields whether a and b are the same.
func likeBox(a, b api.Box) bool {
	return a.Next == b.Next && slices.Equal(a.Sent, b.Sent) && a.In.Next == b.In.Next && slices.EqualFunc(a.In.Ahead, b.In.Ahead, alike) && slices.Equal(a.Got, b.Got)
}

// like tells by the fields whether a and b are the same.
func like(a, b api.Port) bool {
	return a.State == b.State && a.Mine == b.Mine && a.Theirs == b.Theirs && a.Quiet == b.Quiet && a.Wait == b.Wait && likeBox(a.Box, b.Box)
}

// allLike tells whether a and b are the same messages, in order.
func allLike(a, b [][]api.Item) bool {
	return slices.EqualFunc(a, b, slices.Equal[[]api.Item])
}

// text is the numbers of p, and of its session how many there are of each.
func text(p api.Port) string {
	s := "state " + strconv.Itoa(p.State)
	for _, e := range []api.Epoch{p.Mine, p.Theirs} {
		s += ", " + strconv.FormatUint(uint64(e.Boot), 10) + "." + strconv.FormatUint(uint64(e.Local), 10)
	}
	for _, n := range []int{p.Quiet, p.Wait, p.Box.Next, len(p.Box.Sent), p.Box.In.Next, len(p.Box.In.Ahead), len(p.Box.Got)} {
		s += ", " + strconv.Itoa(n)
	}
	return s
}

// words is each of the frames in words.
func words(frames []string) string {
	var l []string
	for _, s := range frames {
		said, err := frame.Show(s)
		if err != api.OK {
			said = strconv.Quote(s)
		}
		l = append(l, said)
	}
	return strings.Join(l, "; ")
}

// later tells by chapter 5's words whether a is newer than b.
func later(a, b api.Epoch) bool {
	return a.Boot > b.Boot || a.Boot == b.Boot && a.Local > b.Local
}

// isNode tells by chapter 3's words whether n is one.
func isNode(n int) bool {
	return n >= 0 && n <= 15
}

// hearOf is shake.Hear by chapter 20's words.
func hearOf(p api.Port, h api.Hello) (api.Port, int) {
	if p.State == 0 || !isNode(h.From) || h.Pair.Mine == none {
		return p, 0
	}
	if later(p.Theirs, h.Pair.Mine) {
		return p, 3
	}
	if later(h.Pair.Mine, p.Theirs) {
		if p.State == 2 {
			return p, 2
		}
		p.Theirs = h.Pair.Mine
	}
	p.Quiet = 0
	if p.State == 1 && h.Pair.Theirs == p.Mine && p.Mine != none {
		p.State = 2
		return p, 1
	}
	return p, 0
}

// saidOf is what is said where a hello is: a frame, or none.
func saidOf(p api.Port, at int) []string {
	if !isNode(at) || p.Mine == none {
		return nil
	}
	s, _ := frame.Hello(says(at, p.Mine, p.Theirs))
	return []string{s}
}

// againOf is Again by the chapter's words.
func againOf(p api.Port, theirs api.Epoch) (api.Port, api.Errno) {
	if p.Mine.Local == top {
		return api.Port{}, api.ErrWrap
	}
	return api.Port{State: 1, Mine: of(p.Mine.Boot, p.Mine.Local+1), Theirs: theirs}, 0
}

// helloOf is Hello by the chapter's words, a step at a time.
func helloOf(p api.Port, at int, h api.Hello) (api.Port, []string, int) {
	p, came := hearOf(p, h)
	var frames []string
	if came == 1 {
		frames = saidOf(p, at)
	}
	if came == 2 {
		anew, err := againOf(p, h.Pair.Mine)
		if err == 0 {
			frames = saidOf(anew, at)
		}
		p = anew
	}
	if came == 0 && p.State != 0 && h.Pair.Theirs != p.Mine {
		frames = saidOf(p, at)
	}
	return p, frames, came
}

// holdsOf is shake.Holds by chapter 20's words.
func holdsOf(p api.Port, theirs api.Pair) bool {
	return p.State == 2 && theirs == pair(p.Theirs, p.Mine) && p.Mine != none && p.Theirs != none
}

// partOf is Part by the chapter's words, a step at a time.
func partOf(p api.Port, at int, x api.Part) (api.Port, []string, [][]api.Item, api.Errno) {
	if !holdsOf(p, x.Pair) {
		return p, nil, nil, 6
	}
	session, ack, messages, err := mrl.Hear(p.Box, says(at, p.Mine, p.Theirs), x)
	if err != 0 && err != 6 {
		return p, nil, nil, err
	}
	p.Box, p.Quiet = session, 0
	return p, []string{ack}, messages, err
}

// ackOf is Ack by the chapter's words, a step at a time.
func ackOf(p api.Port, a api.Ack) (api.Port, api.Errno) {
	if !holdsOf(p, a.Pair) {
		return p, 6
	}
	session, _ := mrl.Acked(p.Box, a)
	p.Box, p.Quiet = session, 0
	return p, 0
}

// sendOf is Send by the chapter's words, a step at a time.
func sendOf(p api.Port, at int, l []api.Item, r api.Rules) (api.Port, []string, api.Errno) {
	if p.State != 2 {
		return p, nil, 7
	}
	session, frames, err := mrl.Send(p.Box, says(at, p.Mine, p.Theirs), l, r)
	if err != 0 {
		return p, nil, err
	}
	p.Box = session
	return p, frames, 0
}

// tickOf is Tick by the chapters' words, a step at a time.
func tickOf(p api.Port, at int, r api.Rules) (api.Port, []string, bool) {
	if p.State == 0 {
		return p, nil, false
	}
	var frames []string
	if p.Wait <= 1 {
		frames = saidOf(p, at)
		p.Wait = max(r.Hello, 1)
	} else {
		p.Wait--
	}
	if p.State != 2 {
		return p, frames, false
	}
	if p.Quiet < r.Dead {
		p.Quiet++
	}
	session, again, over := mrl.Tick(p.Box, r)
	p.Box = session
	for _, s := range again {
		frames = append(frames, s)
	}
	return p, frames, over || p.Quiet >= r.Dead
}

// hails looks whether Hello does what the chapter says, and answers what it does.
func hails(t *testing.T, p api.Port, at int, h api.Hello) (api.Port, []string, int) {
	t.Helper()
	want, wantFrames, wantCame := helloOf(p, at, h)
	got, frames, came := link.Hello(p, at, h)
	if !like(got, want) || !slices.Equal(frames, wantFrames) || came != wantCame {
		t.Fatalf("Hello of %v at %s, node %d: %s; %s; %d, want %s; %s; %d", h, text(p), at, text(got), words(frames), came, text(want), words(wantFrames), wantCame)
	}
	return got, frames, came
}

// hears looks whether Part does what the chapter says, and answers what it does.
func hears(t *testing.T, p api.Port, at int, x api.Part) (api.Port, []string, [][]api.Item, api.Errno) {
	t.Helper()
	want, wantFrames, wantMessages, wantErr := partOf(p, at, x)
	got, frames, messages, err := link.Part(p, at, x)
	if !like(got, want) || !slices.Equal(frames, wantFrames) || !allLike(messages, wantMessages) || err != wantErr {
		t.Fatalf("Part of %v at %s, node %d: %s; %s; %v; %d, want %s; %s; %v; %d", x, text(p), at, text(got), words(frames), messages, err, text(want), words(wantFrames), wantMessages, wantErr)
	}
	return got, frames, messages, err
}

// acked looks whether Ack does what the chapter says, and answers what it does.
func acked(t *testing.T, p api.Port, a api.Ack) (api.Port, api.Errno) {
	t.Helper()
	want, wantErr := ackOf(p, a)
	got, err := link.Ack(p, a)
	if !like(got, want) || err != wantErr {
		t.Fatalf("Ack of %v at %s: %s; %d, want %s; %d", a, text(p), text(got), err, text(want), wantErr)
	}
	return got, err
}

// sends looks whether Send does what the chapter says, and answers what it does.
func sends(t *testing.T, p api.Port, at int, l []api.Item, r api.Rules) (api.Port, []string, api.Errno) {
	t.Helper()
	want, wantFrames, wantErr := sendOf(p, at, l, r)
	got, frames, err := link.Send(p, at, l, r)
	if !like(got, want) || !slices.Equal(frames, wantFrames) || err != wantErr {
		t.Fatalf("Send of %v at %s, node %d: %s; %s; %d, want %s; %s; %d", l, text(p), at, text(got), words(frames), err, text(want), words(wantFrames), wantErr)
	}
	return got, frames, err
}

// ticks looks whether Tick does what the chapter says, and answers what it does.
func ticks(t *testing.T, p api.Port, at int, r api.Rules) (api.Port, []string, bool) {
	t.Helper()
	want, wantFrames, wantDead := tickOf(p, at, r)
	got, frames, dead := link.Tick(p, at, r)
	if !like(got, want) || !slices.Equal(frames, wantFrames) || dead != wantDead {
		t.Fatalf("Tick of %s by %v, node %d: %s; %s; %t, want %s; %s; %t", text(p), r, at, text(got), words(frames), dead, text(want), words(wantFrames), wantDead)
	}
	return got, frames, dead
}

func TestOpen(t *testing.T) { // P22.1
	for _, mine := range epochs {
		if got := link.Open(mine); !like(got, api.Port{State: 1, Mine: mine}) {
			t.Errorf("Open of %v: %s", mine, text(got))
		}
	}
}

func TestClose(t *testing.T) { // P22.1
	for _, state := range states {
		for _, e := range epochs {
			for _, p := range []api.Port{between(state, e, of(2, 0)), between(state, of(2, 0), e), {State: state}} {
				if got := link.Close(p); !like(got, api.Port{}) || got.State != api.StateOff {
					t.Fatalf("Close of %s: %s", text(p), text(got))
				}
			}
		}
	}
}

func TestAgain(t *testing.T) { // P22.2
	for what, c := range map[string]struct {
		mine, theirs api.Epoch
		state2       int
		mine2        api.Epoch
		theirs2      api.Epoch
		err          api.Errno
	}{
		"the next one":                      {of(1, 9), of(3, 3), 1, of(1, 10), of(3, 3), api.OK},
		"the next one, nothing known":       {of(1, 9), none, 1, of(1, 10), none, api.OK},
		"behind none":                       {none, of(3, 3), 1, of(0, 1), of(3, 3), api.OK},
		"the last one":                      {of(1, top-1), of(3, 3), 1, of(1, top), of(3, 3), api.OK},
		"the last one of the last start":    {of(top, top-1), of(top, top), 1, of(top, top), of(top, top), api.OK},
		"behind the last one":               {of(1, top), of(3, 3), 0, none, none, api.ErrWrap},
		"behind the last one, none known":   {of(1, top), none, 0, none, none, api.ErrWrap},
		"behind the last one of all":        {of(top, top), of(3, 3), 0, none, none, api.ErrWrap},
		"behind the last one of no start":   {of(0, top), of(3, 3), 0, none, none, api.ErrWrap},
		"an older one of the other end":     {of(1, 9), of(0, 1), 1, of(1, 10), of(0, 1), api.OK},
		"the first one of the last start":   {of(top, 0), of(1, 0), 1, of(top, 1), of(1, 0), api.OK},
		"the same epoch at the other end":   {of(1, 9), of(1, 9), 1, of(1, 10), of(1, 9), api.OK},
		"the next epoch of the other end":   {of(1, 9), of(1, 10), 1, of(1, 10), of(1, 10), api.OK},
		"half of all locals are over":       {of(1, 1<<31-1), of(3, 3), 1, of(1, 1<<31), of(3, 3), api.OK},
		"a local that has its low bits set": {of(1, 1<<16-1), of(3, 3), 1, of(1, 1<<16), of(3, 3), api.OK},
	} {
		for _, state := range states {
			want := api.Port{State: c.state2, Mine: c.mine2, Theirs: c.theirs2}
			for _, theirs := range []api.Epoch{none, of(2, 0), c.theirs} {
				if got, err := link.Again(between(state, c.mine, theirs), c.theirs); !like(got, want) || err != c.err {
					t.Errorf("%s, in the state %d: %s; %d, want %s; %d", what, state, text(got), err, text(want), c.err)
				}
			}
		}
	}
}

func TestAgainOfAny(t *testing.T) { // P22.2
	for _, state := range states {
		for _, mine := range epochs {
			for _, theirs := range epochs {
				p := between(state, mine, of(2, 0))
				want, wantErr := againOf(p, theirs)
				if got, err := link.Again(p, theirs); !like(got, want) || err != wantErr {
					t.Fatalf("Again of %s with %v: %s; %d, want %s; %d", text(p), theirs, text(got), err, text(want), wantErr)
				}
			}
		}
	}
}

func TestHello(t *testing.T) { // P22.3
	for what, c := range map[string]struct {
		state        int
		mine, theirs api.Epoch
		at           int
		h            api.Hello
		state2       int
		mine2        api.Epoch
		theirs2      api.Epoch
		said         string
		came         int
	}{
		"a first one that knows nothing":          {1, of(1, 9), none, 1, says(6, of(2, 0), none), 1, of(1, 9), of(2, 0), "hello b 1.9-2.0", 0},
		"a first one that knows this one":         {1, of(1, 9), none, 1, says(6, of(2, 0), of(1, 9)), 2, of(1, 9), of(2, 0), "hello b 1.9-2.0", 1},
		"a first one that knows an older one":     {1, of(1, 9), none, 0, says(6, of(2, 0), of(1, 8)), 1, of(1, 9), of(2, 0), "hello a 1.9-2.0", 0},
		"the same that knows this one":            {1, of(1, 9), of(2, 0), 15, says(6, of(2, 0), of(1, 9)), 2, of(1, 9), of(2, 0), "hello p 1.9-2.0", 1},
		"a newer one that knows this one":         {1, of(1, 9), of(2, 0), 1, says(6, of(2, 1), of(1, 9)), 2, of(1, 9), of(2, 1), "hello b 1.9-2.1", 1},
		"it knows this one, at no node":           {1, of(1, 9), of(2, 0), 16, says(6, of(2, 0), of(1, 9)), 2, of(1, 9), of(2, 0), "", 1},
		"it knows nothing, at no node":            {1, of(1, 9), of(2, 0), -1, says(6, of(2, 0), none), 1, of(1, 9), of(2, 0), "", 0},
		"an older one":                            {1, of(1, 9), of(2, 0), 1, says(6, of(1, 9), none), 1, of(1, 9), of(2, 0), "", 3},
		"an older one that knows this one":        {1, of(1, 9), of(2, 0), 1, says(6, of(1, 9), of(1, 9)), 1, of(1, 9), of(2, 0), "", 3},
		"an older one, up":                        {2, of(1, 9), of(2, 3), 1, says(6, of(2, 2), of(1, 8)), 2, of(1, 9), of(2, 3), "", 3},
		"up, and it knows this one":               {2, of(1, 9), of(2, 0), 1, says(6, of(2, 0), of(1, 9)), 2, of(1, 9), of(2, 0), "", 0},
		"up, and it knows nothing":                {2, of(1, 9), of(2, 0), 1, says(6, of(2, 0), none), 2, of(1, 9), of(2, 0), "hello b 1.9-2.0", 0},
		"up, and it knows an older one":           {2, of(1, 9), of(2, 0), 1, says(6, of(2, 0), of(1, 8)), 2, of(1, 9), of(2, 0), "hello b 1.9-2.0", 0},
		"up, and it knows a newer one":            {2, of(1, 9), of(2, 0), 1, says(6, of(2, 0), of(1, 10)), 2, of(1, 9), of(2, 0), "hello b 1.9-2.0", 0},
		"up, and it began anew":                   {2, of(1, 9), of(2, 0), 1, says(6, of(2, 1), of(1, 9)), 1, of(1, 10), of(2, 1), "hello b 1.10-2.1", 2},
		"up, and it was started anew":             {2, of(1, 9), of(2, 5), 1, says(6, of(3, 0), none), 1, of(1, 10), of(3, 0), "hello b 1.10-3.0", 2},
		"up, and it began anew, at no node":       {2, of(1, 9), of(2, 0), 17, says(6, of(2, 1), of(1, 9)), 1, of(1, 10), of(2, 1), "", 2},
		"up, and it began anew, the last epoch":   {2, of(1, top-1), of(2, 0), 1, says(6, of(2, 1), none), 1, of(1, top), of(2, 1), "hello b 1.4294967295-2.1", 2},
		"up, and it began anew, no epoch is left": {2, of(1, top), of(2, 0), 1, says(6, of(2, 1), none), 0, none, none, "", 2},
		"up without an epoch, and it began anew":  {2, none, of(2, 0), 1, says(6, of(2, 1), none), 1, of(0, 1), of(2, 1), "hello b 0.1-2.1", 2},
		"trying without an epoch":                 {1, none, none, 1, says(6, of(2, 0), none), 1, none, of(2, 0), "", 0},
		"trying without an epoch, another known":  {1, none, none, 1, says(6, of(2, 0), of(1, 9)), 1, none, of(2, 0), "", 0},
		"off":                                     {0, of(1, 9), of(2, 0), 1, says(6, of(2, 0), none), 0, of(1, 9), of(2, 0), "", 0},
		"off, and it knows this one":              {0, of(1, 9), of(2, 0), 1, says(6, of(2, 0), of(1, 9)), 0, of(1, 9), of(2, 0), "", 0},
		"off, of a newer one":                     {0, of(1, 9), of(2, 0), 1, says(6, of(3, 0), none), 0, of(1, 9), of(2, 0), "", 0},
		"off, of an older one":                    {0, of(1, 9), of(2, 0), 1, says(6, of(1, 0), none), 0, of(1, 9), of(2, 0), "", 0},
		"of no node":                              {1, of(1, 9), of(2, 0), 1, says(16, of(2, 0), of(1, 9)), 1, of(1, 9), of(2, 0), "", 0},
		"of no node, and it knows nothing":        {1, of(1, 9), of(2, 0), 1, says(16, of(2, 0), none), 1, of(1, 9), of(2, 0), "hello b 1.9-2.0", 0},
		"of no node, and a newer one, up":         {2, of(1, 9), of(2, 0), 1, says(-1, of(3, 0), none), 2, of(1, 9), of(2, 0), "hello b 1.9-2.0", 0},
		"without an epoch of its own":             {2, of(1, 9), of(2, 0), 1, says(6, none, of(1, 8)), 2, of(1, 9), of(2, 0), "hello b 1.9-2.0", 0},
		"no state, and it knows this one":         {3, of(1, 9), of(2, 0), 1, says(6, of(2, 1), of(1, 9)), 3, of(1, 9), of(2, 1), "", 0},
		"no state, and it knows nothing":          {-1, of(1, 9), of(2, 0), 1, says(6, of(2, 1), none), -1, of(1, 9), of(2, 1), "hello b 1.9-2.1", 0},
	} {
		p := between(c.state, c.mine, c.theirs)
		got, frames, came := hails(t, p, c.at, c.h)
		if got.State != c.state2 || got.Mine != c.mine2 || got.Theirs != c.theirs2 || words(frames) != c.said || came != c.came {
			t.Errorf("%s: %s; %s; %d, want the state %d, %v, %v; %s; %d", what, text(got), words(frames), came, c.state2, c.mine2, c.theirs2, c.said, c.came)
		}
	}
}

func TestHelloOfAny(t *testing.T) { // P22.3
	many, said := map[int]int{}, map[int]int{}
	for _, state := range states {
		for _, mine := range epochs {
			for _, theirs := range epochs {
				p := between(state, mine, theirs)
				for _, own := range epochs {
					for _, known := range epochs {
						_, frames, came := hails(t, p, int(own.Local&15), says(peer, own, known))
						many[came]++
						said[len(frames)]++
					}
				}
				for _, n := range senders {
					hails(t, p, self, says(n, of(2, 0), mine))
					hails(t, p, self, says(n, of(2, 1), none))
					hails(t, p, n, says(peer, of(2, 0), mine))
					hails(t, p, n, says(peer, of(2, 1), none))
				}
			}
		}
	}
	if many[0] < 1000 || many[1] < 100 || many[2] < 100 || many[3] < 1000 || said[0] < 1000 || said[1] < 1000 {
		t.Errorf("so many came: %v, and so many had frames: %v: too few to tell much", many, said)
	}
}

// wrong are pairs that are not of the session of full at the other end.
var wrong = map[string]api.Pair{
	"none":                      {},
	"one's own view":            pair(of(1, 9), of(2, 0)),
	"an older one of theirs":    pair(of(1, 0), of(1, 9)),
	"a newer one of theirs":     pair(of(2, 1), of(1, 9)),
	"another start of theirs":   pair(of(3, 0), of(1, 9)),
	"an older one of one's own": pair(of(2, 0), of(1, 8)),
	"a newer one of one's own":  pair(of(2, 0), of(1, 10)),
	"another start of one's":    pair(of(2, 0), of(2, 9)),
	"nothing known":             pair(of(2, 0), none),
	"nothing of its own":        pair(none, of(1, 9)),
}

func TestExample(t *testing.T) { // P22.4, the chapter's example
	for what, other := range wrong {
		p, x := full(api.StateUp), piece(6, 3, false)
		x.Pair = other
		got, frames, messages, err := link.Part(p, self, x)
		if !like(got, p) || len(frames) != 0 || len(messages) != 0 || err != api.ErrOld {
			t.Errorf("a part of another session, %s: %s; %s; %v; %d", what, text(got), words(frames), messages, err)
		}
	}
}

func TestPart(t *testing.T) { // P22.4
	long := full(api.StateUp)
	long.Box.Got = list(46, 0)
	bad, stranger := piece(6, 3, false), piece(6, 3, false)
	bad.Items[1].Dest = 16
	stranger.From = 16
	for what, c := range map[string]struct {
		p        api.Port
		at       int
		x        api.Part
		said     string
		messages [][]api.Item
		err      api.Errno
	}{
		"in its turn":                     {full(2), self, piece(6, 3, false), "ack b 1.9-2.0 #8 2", [][]api.Item{append(list(4, 30), list(3, 6)...), list(2, 7)}, api.OK},
		"in its turn, and more follow":    {full(2), self, piece(6, 1, true), "ack b 1.9-2.0 #8 2", [][]api.Item{append(append(list(4, 30), told(6)), list(2, 7)...)}, api.OK},
		"in its turn, of nothing":         {full(2), self, piece(6, 0, false), "ack b 1.9-2.0 #8 2", [][]api.Item{list(4, 30), list(2, 7)}, api.OK},
		"ahead of its turn":               {full(2), self, piece(8, 3, false), "ack b 1.9-2.0 #6 14", nil, api.OK},
		"ahead of all":                    {full(2), self, piece(13, 3, false), "ack b 1.9-2.0 #6 138", nil, api.OK},
		"known already":                   {full(2), self, piece(5, 3, false), "ack b 1.9-2.0 #6 10", nil, api.ErrOld},
		"the first one, known already":    {full(2), self, piece(0, 3, false), "ack b 1.9-2.0 #6 10", nil, api.ErrOld},
		"ahead of its turn, and known":    {full(2), self, piece(9, 3, true), "ack b 1.9-2.0 #6 10", nil, api.ErrOld},
		"too far ahead":                   {full(2), self, piece(14, 3, false), "", nil, api.ErrFull},
		"an item that is not right":       {full(2), self, bad, "", nil, api.ErrArg},
		"of no node":                      {full(2), self, stranger, "", nil, api.ErrArg},
		"too long with what is gathered":  {long, self, piece(6, 3, false), "", nil, api.ErrLong},
		"at no node":                      {full(2), 16, piece(6, 3, false), "", nil, api.ErrArg},
		"known already, at no node":       {full(2), -1, piece(5, 3, false), "", nil, api.ErrArg},
		"off":                             {full(0), self, piece(6, 3, false), "", nil, api.ErrOld},
		"trying":                          {full(1), self, piece(6, 3, false), "", nil, api.ErrOld},
		"no state":                        {full(3), self, piece(6, 3, false), "", nil, api.ErrOld},
		"a low byte of 2":                 {full(258), self, piece(6, 3, false), "", nil, api.ErrOld},
		"trying, and not right":           {full(1), 16, bad, "", nil, api.ErrOld},
		"of the node itself":              {full(2), peer, piece(6, 3, false), "ack g 1.9-2.0 #8 2", [][]api.Item{append(list(4, 30), list(3, 6)...), list(2, 7)}, api.OK},
		"in its turn, the greatest part":  {full(2), 15, piece(6, 6, false), "ack p 1.9-2.0 #8 2", [][]api.Item{append(list(4, 30), list(6, 6)...), list(2, 7)}, api.OK},
		"more items than a part may have": {full(2), self, piece(6, 7, false), "", nil, api.ErrArg},
	} {
		got, frames, messages, err := hears(t, c.p, c.at, c.x)
		if words(frames) != c.said || !allLike(messages, c.messages) || err != c.err {
			t.Errorf("%s: %s; %s; %v; %d, want %s; %v; %d", what, text(got), words(frames), messages, err, c.said, c.messages, c.err)
		}
		if heard := c.said != ""; heard != (got.Quiet == 0) || !heard && !like(got, c.p) {
			t.Errorf("%s: %s", what, text(got))
		}
	}
}

func TestPartOfAny(t *testing.T) { // P22.4
	many := map[api.Errno]int{}
	for _, state := range states {
		for seq := -1; seq <= 16; seq++ {
			for items := range 8 {
				for _, more := range []bool{false, true} {
					p, x := full(state), piece(seq, items, more)
					_, _, _, err := hears(t, p, self, x)
					many[err]++
					for _, other := range wrong {
						x.Pair = other
						hears(t, p, self, x)
					}
				}
			}
		}
		for _, n := range senders {
			x := piece(6, 2, false)
			hears(t, full(state), n, x)
			x.From = n
			hears(t, full(state), self, x)
		}
	}
	if many[api.OK] < 50 || many[api.ErrOld] < 50 || many[api.ErrArg] < 10 || many[api.ErrFull] < 10 {
		t.Errorf("so many errors: %v: too few to tell much", many)
	}
	// Ends that hold no epoch have no session, though both pairs are alike.
	for _, e := range []api.Epoch{none, of(1, 9)} {
		for _, p := range []api.Port{between(2, none, e), between(2, e, none)} {
			x := piece(6, 2, false)
			x.Pair = pair(p.Theirs, p.Mine)
			if _, _, _, err := hears(t, p, self, x); err != api.ErrOld {
				t.Errorf("a part at %s: %d", text(p), err)
			}
		}
	}
}

func TestAck(t *testing.T) { // P22.5
	for what, c := range map[string]struct {
		state      int
		next, bits int
		kept       []int
		quiet      int
		err        api.Errno
	}{
		"of both":              {2, 5, 0, nil, 0, api.OK},
		"of the first one":     {2, 4, 0, []int{4}, 0, api.OK},
		"of the second one":    {2, 3, 2, []int{3}, 0, api.OK},
		"of both by bits":      {2, 2, 6, nil, 0, api.OK},
		"of none":              {2, 3, 0, []int{3, 4}, 0, api.OK},
		"of none, an old one":  {2, 0, 0, []int{3, 4}, 0, api.OK},
		"trying":               {1, 5, 0, []int{3, 4}, still, api.ErrOld},
		"off":                  {0, 5, 0, []int{3, 4}, still, api.ErrOld},
		"no state":             {-1, 5, 0, []int{3, 4}, still, api.ErrOld},
		"a low byte of 2":      {258, 5, 0, []int{3, 4}, still, api.ErrOld},
		"of more than is sent": {2, 65535, 255, nil, 0, api.OK},
	} {
		p := full(c.state)
		got, err := acked(t, p, api.Ack{From: peer, Pair: pair(of(2, 0), of(1, 9)), Next: c.next, Bits: c.bits})
		var kept []int
		for _, s := range got.Box.Sent {
			kept = append(kept, s.Seq)
		}
		if !slices.Equal(kept, c.kept) || got.Quiet != c.quiet || err != c.err {
			t.Errorf("%s: %v are kept; %s; %d, want %v; Quiet %d; %d", what, kept, text(got), err, c.kept, c.quiet, c.err)
		}
		for other, x := range wrong {
			if got, err := acked(t, p, api.Ack{From: peer, Pair: x, Next: c.next, Bits: c.bits}); !like(got, p) || err != api.ErrOld {
				t.Errorf("%s, of another session, %s: %s; %d", what, other, text(got), err)
			}
		}
	}
}

func TestAckOfAny(t *testing.T) { // P22.5
	for _, state := range states {
		for _, n := range append(slices.Clone(senders), counts...) {
			theirs := pair(of(2, 0), of(1, 9))
			acked(t, full(state), api.Ack{From: n, Pair: theirs, Next: 5})
			acked(t, full(state), api.Ack{From: peer, Pair: theirs, Next: n})
			acked(t, full(state), api.Ack{From: peer, Pair: theirs, Next: 3, Bits: n})
		}
		acked(t, between(state, none, none), api.Ack{Next: 5})
		acked(t, between(state, none, of(2, 0)), api.Ack{Pair: pair(of(2, 0), none), Next: 5})
		acked(t, between(state, of(1, 9), none), api.Ack{Pair: pair(none, of(1, 9)), Next: 5})
	}
}

func TestSend(t *testing.T) { // P22.6
	last, over := full(api.StateUp), full(api.StateUp)
	last.Box.Next, over.Box.Next = api.LastSeq-1, api.LastSeq
	long := list(7, 0)
	for what, c := range map[string]struct {
		p    api.Port
		at   int
		l    []api.Item
		r    api.Rules
		said string
		next int
		err  api.Errno
	}{
		"one item":                    {full(2), self, list(1, 0), rules, "part b 1.9-2.0 #5 a100b", 6, api.OK},
		"two items":                   {full(2), self, list(2, 0), rules, "part b 1.9-2.0 #5 a100b b?101c", 6, api.OK},
		"no item":                     {full(2), 15, nil, rules, "part p 1.9-2.0 #5", 6, api.OK},
		"seven items":                 {full(2), self, long, rules, "part b 1.9-2.0 #5+ a100b b?101c c!102d d103e e?104f f!105g; part b 1.9-2.0 #6 g106h", 7, api.OK},
		"the last number":             {last, self, list(1, 0), rules, "part b 1.9-2.0 #64999 a100b", 65000, api.OK},
		"the last number, two pieces": {last, self, long, rules, "", 64999, api.ErrWrap},
		"no number is left":           {over, self, list(1, 0), rules, "", 65000, api.ErrWrap},
		"six pieces":                  {full(2), self, list(37, 0), rules, "", 5, api.ErrFull},
		"too long":                    {full(2), self, list(49, 0), rules, "", 5, api.ErrLong},
		"an item that is not right":   {full(2), self, []api.Item{{Dest: 16}}, rules, "", 5, api.ErrArg},
		"at no node":                  {full(2), 16, list(1, 0), rules, "", 5, api.ErrArg},
		"by rules that may not be":    {full(2), self, list(1, 0), api.Rules{}, "", 5, api.ErrArg},
		"off":                         {full(0), self, list(1, 0), rules, "", 5, api.ErrState},
		"trying":                      {full(1), self, list(1, 0), rules, "", 5, api.ErrState},
		"no state":                    {full(3), self, list(1, 0), rules, "", 5, api.ErrState},
		"a low byte of 2":             {full(258), self, list(1, 0), rules, "", 5, api.ErrState},
		"trying, and too long":        {full(1), 16, list(49, 0), api.Rules{}, "", 5, api.ErrState},
	} {
		got, frames, err := sends(t, c.p, c.at, c.l, c.r)
		if words(frames) != c.said || got.Box.Next != c.next || err != c.err || got.Quiet != still || got.Wait != clock {
			t.Errorf("%s: %s; %s; %d, want %s; %d; %d", what, text(got), words(frames), err, c.said, c.next, c.err)
		}
		if err != api.OK && !like(got, c.p) {
			t.Errorf("%s: %s", what, text(got))
		}
		if many := len(got.Box.Sent) - len(c.p.Box.Sent); many != len(frames) {
			t.Errorf("%s: %d frames, and %d are kept", what, len(frames), many)
		}
	}
}

func TestSendOfAny(t *testing.T) { // P22.6
	for _, state := range states {
		for many := range 51 {
			sends(t, full(state), self, list(many, many), rules)
		}
		for _, n := range senders {
			sends(t, full(state), n, list(8, 0), rules)
		}
		for _, n := range counts {
			sends(t, full(state), self, list(8, 0), api.Rules{Hello: n, Dead: n, Resend: n, Tries: n})
			p := full(state)
			p.Box.Next = n
			sends(t, p, self, list(8, 0), rules)
		}
		for _, e := range epochs {
			sends(t, between(state, e, of(2, 0)), self, list(8, 0), rules)
			sends(t, between(state, of(1, 9), e), self, list(8, 0), rules)
		}
	}
}

func TestTick(t *testing.T) { // P22.7
	for what, c := range map[string]struct {
		state, quiet, wait int
		at                 int
		tries              int
		said               string
		wait2              int
		dead               bool
	}{
		"up":                              {2, 3, 4, self, 5, `"three"`, 3, false},
		"up, and a hello is due":          {2, 3, 1, self, 5, `hello b 1.9-2.0; "three"`, 5, false},
		"up, and a hello is late":         {2, 3, 0, 0, 5, `hello a 1.9-2.0; "three"`, 5, false},
		"up, a hello at no node":          {2, 3, 1, 16, 5, `"three"`, 5, false},
		"up, nothing is sent again":       {2, 3, 1, self, 1, "hello b 1.9-2.0", 5, true},
		"up, and dead by its tries":       {2, 3, 4, self, 1, "", 3, true},
		"up, and dead by its silence":     {2, 19, 4, self, 5, `"three"`, 3, true},
		"up, and dead by both":            {2, 19, 1, self, 1, "hello b 1.9-2.0", 5, true},
		"up, and still dead":              {2, 20, 4, self, 5, `"three"`, 3, true},
		"up, a tick ahead of its death":   {2, 18, 4, self, 5, `"three"`, 3, false},
		"trying":                          {1, 19, 4, self, 1, "", 3, false},
		"trying, and a hello is due":      {1, 19, 1, self, 1, "hello b 1.9-2.0", 5, false},
		"trying, a hello at no node":      {1, 19, 1, -1, 1, "", 5, false},
		"off":                             {0, 19, 1, self, 1, "", 1, false},
		"off, for long":                   {0, 100, -3, self, 1, "", -3, false},
		"no state":                        {3, 19, 4, self, 1, "", 3, false},
		"no state, and a hello is due":    {258, 19, 1, self, 1, "hello b 1.9-2.0", 5, false},
		"up, at the ends of int":          {2, math.MaxInt, math.MinInt, self, 5, `hello b 1.9-2.0; "three"`, 5, true},
		"up, from one end to the other":   {2, math.MinInt, math.MaxInt, self, 5, `"three"`, math.MaxInt - 1, false},
		"trying, from one end of the int": {1, math.MaxInt, math.MinInt, self, 5, "hello b 1.9-2.0", 5, false},
	} {
		p, r := full(c.state), rules
		p.Quiet, p.Wait, r.Tries = c.quiet, c.wait, c.tries
		got, frames, dead := ticks(t, p, c.at, r)
		if words(frames) != c.said || got.Wait != c.wait2 || dead != c.dead {
			t.Errorf("%s: %s; %s; %t, want %s; Wait %d; %t", what, text(got), words(frames), dead, c.said, c.wait2, c.dead)
		}
		if up := c.state == api.StateUp; !up && !likeBox(got.Box, p.Box) {
			t.Errorf("%s: the session was ticked: %s", what, text(got))
		}
	}
}

func TestTickOfAny(t *testing.T) { // P22.7
	many := map[int]int{}
	for _, state := range states {
		for _, quiet := range counts {
			for _, wait := range counts {
				for _, n := range counts {
					p := full(state)
					p.Quiet, p.Wait = quiet, wait
					_, frames, _ := ticks(t, p, self, api.Rules{Hello: n, Dead: 20, Resend: 3, Tries: 2})
					many[len(frames)]++
					ticks(t, p, self, api.Rules{Hello: 5, Dead: n, Resend: n, Tries: 2})
					ticks(t, p, self, api.Rules{Hello: 5, Dead: 20, Resend: 3, Tries: n})
				}
			}
		}
		for _, n := range senders {
			p := full(state)
			p.Wait = 1
			ticks(t, p, n, rules)
		}
		for _, e := range epochs {
			p := between(state, e, of(2, 0))
			p.Wait = 1
			ticks(t, p, self, rules)
			ticks(t, api.Port{State: state, Mine: e}, self, rules)
		}
	}
	if many[0] < 100 || many[1] < 100 || many[2] < 100 {
		t.Errorf("so many had so many frames: %v: too few to tell much", many)
	}
}

func TestTickOverAndOver(t *testing.T) { // P22.7
	// With three tries a part is sent again twice, and a hello is said in the ticks 1, 6, 11.
	p, r := api.Port{State: api.StateUp, Mine: of(1, 9), Theirs: of(2, 0)}, api.Rules{Hello: 5, Dead: 20, Resend: 3, Tries: 3}
	p, _, _ = sends(t, p, self, list(1, 0), r)
	for tick, want := range []string{"hello", "", "part", "", "", "hello part", "", ""} {
		q, frames, dead := ticks(t, p, self, r)
		var kinds []string
		for _, s := range frames {
			kinds = append(kinds, strings.Fields(words([]string{s}))[0])
		}
		if p = q; strings.Join(kinds, " ") != want || dead {
			t.Fatalf("tick %d: %s; %t, want %s", tick+1, words(frames), dead, want)
		}
	}
	if _, frames, dead := ticks(t, p, self, r); len(frames) != 0 || !dead {
		t.Errorf("the last tick: %s; %t", words(frames), dead)
	}
}

// end is a node's end of a link, the frames that were said to it, and the messages that it sent and heard, by its pairs.
type end struct {
	t     *testing.T
	node  int
	boot  uint32
	p     api.Port
	air   []string
	sent  map[api.Pair][][]api.Item
	heard map[api.Pair][][]api.Item
	began int // how often it was given up, and began anew
}

// ends are two ends that are open.
func ends(t *testing.T) [2]*end {
	var l [2]*end
	for i, node := range []int{self, peer} {
		l[i] = &end{t: t, node: node, boot: 1, p: link.Open(of(1, 0)), sent: map[api.Pair][][]api.Item{}, heard: map[api.Pair][][]api.Item{}}
	}
	return l
}

// pairOf is the pair of the session that e has.
func (e *end) pairOf() api.Pair {
	return pair(e.p.Mine, e.p.Theirs)
}

// take brings the frame s to e, and answers what is said to it.
func (e *end) take(s string) []string {
	e.t.Helper()
	kind, body, err := frame.Open(s)
	if err != api.OK {
		e.t.Fatalf("a frame that was said can't be opened: %d", err)
	}
	was := e.p
	var frames []string
	switch kind {
	case api.KindHello:
		h, _ := hello.Read(body)
		e.p, frames, _ = hails(e.t, was, e.node, h)
		return frames
	case api.KindPart:
		x, _ := part.Read(body)
		next, frames, messages, err := hears(e.t, was, e.node, x)
		e.p = next
		e.heard[e.pairOf()] = append(e.heard[e.pairOf()], messages...)
		e.other(was, x.Pair, len(frames)+len(messages), err)
		return frames
	case api.KindAck:
		a, _ := acks.Read(body)
		e.p, err = acked(e.t, was, a)
		e.other(was, a.Pair, 0, err)
	}
	return nil
}

// other looks whether e is as it was, and said nothing, behind what is of another session than it has.
func (e *end) other(was api.Port, theirs api.Pair, said int, err api.Errno) {
	e.t.Helper()
	if was.State == api.StateUp && theirs == pair(was.Theirs, was.Mine) {
		return
	}
	if !like(e.p, was) || said != 0 || err != api.ErrOld {
		e.t.Fatalf("what is of another session changed %s: %s; %d; %d", text(was), text(e.p), said, err)
	}
}

// send is what is said by e to tell a message, if there is room.
func (e *end) send(l []api.Item, r api.Rules) []string {
	e.t.Helper()
	next, frames, err := sends(e.t, e.p, e.node, l, r)
	if e.p = next; err == api.OK {
		e.sent[e.pairOf()] = append(e.sent[e.pairOf()], l)
	}
	return frames
}

// tick is what is said by e in a tick; a session that is dead begins anew.
func (e *end) tick(r api.Rules) []string {
	e.t.Helper()
	next, frames, dead := ticks(e.t, e.p, e.node, r)
	e.p = next
	if dead {
		e.began++
		e.p, _ = link.Again(e.p, none)
	}
	return frames
}

// start starts the node of e anew, which keeps nothing but how often it was started.
func (e *end) start() {
	e.boot++
	e.p = link.Open(of(e.boot, 0))
}

// starts tells whether a is how b begins, message by message.
func starts(a, b [][]api.Item) bool {
	return len(a) <= len(b) && allLike(a, b[:len(a)])
}

// sane looks whether what was heard in each session was sent in it, in order, each once.
func sane(t *testing.T, l [2]*end) {
	t.Helper()
	for i, e := range l {
		for at, heard := range e.heard {
			if sent := l[1-i].sent[pair(at.Theirs, at.Mine)]; !starts(heard, sent) {
				t.Fatalf("in %v node %d heard %v, of %v that was sent", at, e.node, heard, sent)
			}
		}
	}
}

// rest lets all come, for so many ticks of both.
func rest(l [2]*end, ticks int, r api.Rules) {
	for range ticks {
		for i, e := range l {
			l[1-i].air = append(l[1-i].air, e.tick(r)...)
		}
		for len(l[0].air)+len(l[1].air) > 0 {
			for i, e := range l {
				air := e.air
				e.air = nil
				for _, s := range air {
					l[1-i].air = append(l[1-i].air, e.take(s)...)
				}
			}
		}
	}
}

// joined looks whether both ends are up, in one session, and each heard all that was sent in it.
func joined(t *testing.T, l [2]*end) {
	t.Helper()
	for i, e := range l {
		at, other := e.pairOf(), l[1-i]
		if e.p.State != api.StateUp || at != pair(other.p.Theirs, other.p.Mine) {
			t.Fatalf("not one session: %s, %s", text(e.p), text(other.p))
		}
		if !mrl.Idle(e.p.Box) || !allLike(e.heard[at], other.sent[pair(at.Theirs, at.Mine)]) {
			t.Fatalf("node %d heard %v, of %v that was sent", e.node, e.heard[at], other.sent[pair(at.Theirs, at.Mine)])
		}
	}
}

func TestComeUp(t *testing.T) { // P22.8
	l := ends(t)
	a, b := l[0], l[1]
	first := a.tick(rules)
	if words(first) != "hello b 1.0-0.0" {
		t.Fatalf("a first hello: %s", words(first))
	}
	second := b.take(first[0])
	third := a.take(second[0])
	fourth := b.take(third[0])
	if words(second) != "hello g 1.0-1.0" || words(third) != "hello b 1.0-1.0" || words(fourth) != "hello g 1.0-1.0" {
		t.Fatalf("the hellos: %s; %s; %s", words(second), words(third), words(fourth))
	}
	if last := a.take(fourth[0]); len(last) != 0 {
		t.Errorf("one who is known says: %s", words(last))
	}
	joined(t, l)
	parts := a.send(list(7, 0), rules)
	for _, s := range parts {
		for _, answer := range b.take(s) {
			a.take(answer)
		}
	}
	if len(parts) != 2 || len(b.heard[b.pairOf()]) != 1 {
		t.Errorf("%d parts, %d messages", len(parts), len(b.heard[b.pairOf()]))
	}
	joined(t, l)
}

func TestSentIsHeard(t *testing.T) { // P22.8
	l := ends(t)
	rest(l, 1, rules)
	for n := range 40 {
		for i, e := range l {
			l[1-i].air = append(l[1-i].air, e.send(list(n, n), rules)...)
		}
		rest(l, 1, rules)
		joined(t, l)
	}
	for _, e := range l {
		if len(e.heard[e.pairOf()]) != 40 || e.began != 0 || e.p.Mine != of(1, 0) {
			t.Errorf("%d were heard, and %s began anew %d times", len(e.heard[e.pairOf()]), text(e.p), e.began)
		}
	}
}

func TestStartsAnew(t *testing.T) { // P22.8
	l := ends(t)
	a, b := l[0], l[1]
	rest(l, 1, rules)
	// late has what was said to each end: a part, an ack, and a hello.
	var late [2][]string
	for i, e := range l {
		parts := e.send(list(3, i), rules)
		late[1-i] = append(late[1-i], parts...)
		for _, s := range parts {
			late[i] = append(late[i], l[1-i].take(s)...)
		}
		e.p.Wait = 1
		late[1-i] = append(late[1-i], e.tick(rules)...)
	}
	a.start()
	rest(l, 6, rules)
	joined(t, l)
	if a.p.Mine != of(2, 0) || b.p.Mine != of(1, 1) {
		t.Errorf("one was started anew: %s, %s", text(a.p), text(b.p))
	}
	for i, e := range l {
		if len(late[i]) != 3 {
			t.Errorf("late, to node %d: %s", e.node, words(late[i]))
		}
		for _, s := range late[i] {
			was := e.p
			if frames := e.take(s); len(frames) != 0 || !like(e.p, was) {
				t.Errorf("%s comes late: %s; %s", words([]string{s}), words(frames), text(e.p))
			}
		}
	}
}

func TestNobodyIsThere(t *testing.T) { // P22.8
	l := ends(t)
	rest(l, 1, rules)
	a := l[0]
	for range rules.Dead {
		a.tick(rules)
	}
	if a.began != 1 || a.p.State != api.StateTrying || a.p.Mine != of(1, 1) {
		t.Errorf("nothing was heard: %s, which began anew %d times", text(a.p), a.began)
	}
	rest(l, 8, rules)
	joined(t, l)
}

func TestNobodyAcknowledges(t *testing.T) { // P22.8
	l := ends(t)
	rest(l, 1, rules)
	a, b := l[0], l[1]
	a.send(list(3, 0), rules)
	for range rules.Resend * rules.Tries {
		if a.began != 0 {
			t.Errorf("too soon: %s", text(a.p))
		}
		a.tick(rules)
		for _, s := range b.tick(rules) {
			a.take(s)
		}
	}
	if a.began != 1 || a.p.Mine != of(1, 1) {
		t.Errorf("nobody acknowledged: %s, which began anew %d times", text(a.p), a.began)
	}
	rest(l, 8, rules)
	joined(t, l)
}

func TestWhateverIsLost(t *testing.T) { // P22.8
	var heard, began int
	for seed := range int64(150) {
		random := rand.New(rand.NewSource(seed))
		r := api.Rules{Hello: 1 + random.Intn(4), Dead: 8 + random.Intn(20), Resend: 1 + random.Intn(3), Tries: 2 + random.Intn(3)}
		l := ends(t)
		// all has what ever was said to each end: any of it may come late, and twice.
		var all [2][]string
		say := func(from int, frames []string) {
			all[1-from] = append(all[1-from], frames...)
			l[1-from].air = append(l[1-from].air, frames...)
		}
		for range 400 {
			i := random.Intn(2)
			switch x := random.Intn(100); {
			case x < 1:
				l[i].start()
			case x < 15:
				say(i, l[i].send(list(random.Intn(10), random.Intn(90)), r))
			case x < 35:
				say(i, l[i].tick(r))
			case x < 40 && len(all[i]) > 0:
				say(i, l[i].take(all[i][random.Intn(len(all[i]))]))
			case x < 45 && len(l[i].air) > 0:
				l[i].air = l[i].air[1:]
			case len(l[i].air) > 0:
				n := random.Intn(min(len(l[i].air), 3))
				s := l[i].air[n]
				l[i].air = slices.Delete(slices.Clone(l[i].air), n, n+1)
				say(i, l[i].take(s))
			}
			sane(t, l)
		}
		rest(l, 3*r.Dead, r)
		sane(t, l)
		joined(t, l)
		for _, e := range l {
			began += e.began
			for _, messages := range e.heard {
				heard += len(messages)
			}
		}
	}
	if heard < 2000 || began < 50 {
		t.Errorf("%d messages were heard, sessions began anew %d times: too few to tell much", heard, began)
	}
}

// room is l with more behind its end.
func room[T any](l []T, more T) []T {
	return append(slices.Clone(l), more, more)[:len(l)]
}

// roomy is full with room behind the end of each of its lists.
func roomy(state int) api.Port {
	p := full(state)
	b := &p.Box
	for i, x := range b.In.Ahead {
		b.In.Ahead[i].Items = room(x.Items, api.Item{Dest: 9})
	}
	b.Sent, b.Got = room(b.Sent, api.Sent{Seq: 77}), room(b.Got, api.Item{Dest: 9})
	b.In.Ahead = room(b.In.Ahead, api.Part{Seq: 77})
	return p
}

// deep is p in memory of its own, with all that lies in the rooms behind the ends of its lists.
func deep(p api.Port) api.Port {
	b := p.Box
	b.Sent, b.Got = slices.Clone(b.Sent[:cap(b.Sent)]), slices.Clone(b.Got[:cap(b.Got)])
	b.In.Ahead = slices.Clone(b.In.Ahead[:cap(b.In.Ahead)])
	for i, x := range b.In.Ahead {
		b.In.Ahead[i].Items = slices.Clone(x.Items[:cap(x.Items)])
	}
	p.Box = b
	return p
}

// spoil changes all of what a list's room has.
func spoil[T any](l []T, with T) {
	l = l[:cap(l)]
	for i := range l {
		l[i] = with
	}
}

// spoilBox changes all of what the lists of b have.
func spoilBox(b api.Box) {
	for _, x := range b.In.Ahead {
		spoil(x.Items, api.Item{Dest: 5, Dist: 55})
	}
	spoil(b.Sent, api.Sent{Seq: 99})
	spoil(b.Got, api.Item{Dest: 5, Dist: 55})
	spoil(b.In.Ahead, api.Part{Seq: 99})
}

func TestNothingIsChanged(t *testing.T) { // R3
	for _, state := range states {
		p := roomy(state)
		p.Wait = 1
		was := deep(p)
		x, l := piece(6, 3, false), list(9, 0)
		x.Items, l = room(x.Items, told(50)), room(l, told(51))
		hails(t, p, self, says(peer, of(2, 1), none))
		hails(t, p, self, says(peer, of(2, 0), of(1, 9)))
		hears(t, p, self, x)
		hears(t, p, self, piece(5, 3, false))
		hears(t, p, self, piece(8, 3, false))
		acked(t, p, api.Ack{From: peer, Pair: x.Pair, Next: 4})
		sends(t, p, self, l, rules)
		ticks(t, p, self, rules)
		link.Again(p, none)
		link.Close(p)
		if !like(deep(p), was) {
			t.Fatalf("in the state %d what was handed in is changed: %s", state, text(p))
		}
		if !slices.Equal(x.Items[:5], append(list(3, 6), told(50), told(50))) || !slices.Equal(l[:11], append(list(9, 0), told(51), told(51))) {
			t.Fatalf("in the state %d items that were handed in are changed", state)
		}
	}
}

func TestMemoryOfItsOwn(t *testing.T) { // R3
	p := roomy(api.StateUp)
	p.Wait = 1
	was := deep(p)
	x, y, l := piece(6, 3, true), piece(8, 3, false), list(9, 0)
	theirs := x.Pair
	for what, call := range map[string]func() (api.Port, []string, [][]api.Item){
		"a part":       func() (api.Port, []string, [][]api.Item) { q, s, m, _ := link.Part(p, self, x); return q, s, m },
		"a part ahead": func() (api.Port, []string, [][]api.Item) { q, s, m, _ := link.Part(p, self, y); return q, s, m },
		"an ack": func() (api.Port, []string, [][]api.Item) {
			q, _ := link.Ack(p, api.Ack{Pair: theirs, Next: 4})
			return q, nil, nil
		},
		"a message":      func() (api.Port, []string, [][]api.Item) { q, s, _ := link.Send(p, self, l, rules); return q, s, nil },
		"a tick":         func() (api.Port, []string, [][]api.Item) { q, s, _ := link.Tick(p, self, rules); return q, s, nil },
		"one that began": func() (api.Port, []string, [][]api.Item) { q, _ := link.Again(p, none); return q, nil, nil },
	} {
		got, frames, messages := call()
		again, framesAgain, messagesAgain := call()
		box := deep(api.Port{Box: got.Box}).Box
		spoil(frames, "spoilt")
		for _, m := range messages {
			spoil(m, api.Item{Dest: 5, Dist: 55})
		}
		if !likeBox(deep(api.Port{Box: got.Box}).Box, box) {
			t.Errorf("%s: the session shares memory with what is told", what)
		}
		spoilBox(got.Box)
		if !like(deep(p), was) || !slices.Equal(x.Items, list(3, 6)) || !slices.Equal(y.Items, list(3, 8)) || !slices.Equal(l, list(9, 0)) {
			t.Errorf("%s: what is answered shares memory with what was handed in", what)
		}
		same, framesSame, messagesSame := call()
		if !like(again, same) || !slices.Equal(framesAgain, framesSame) || !allLike(messagesAgain, messagesSame) {
			t.Errorf("%s: an answer shares memory with another one", what)
		}
	}
}

func TestOneAnswer(t *testing.T) { // R4
	p := full(api.StateUp)
	p.Wait = 1
	for range 200 {
		hails(t, p, self, says(peer, of(2, 1), none))
		hears(t, p, self, piece(6, 3, false))
		acked(t, p, api.Ack{From: peer, Pair: pair(of(2, 0), of(1, 9)), Next: 4})
		sends(t, p, self, list(9, 0), rules)
		ticks(t, p, self, rules)
	}
}

func TestWildOnes(t *testing.T) { // R1
	theirs := pair(of(2, 0), of(1, 9))
	for _, state := range states {
		for _, n := range counts {
			p := api.Port{State: state, Mine: of(1, 9), Theirs: of(2, 0), Quiet: n, Wait: n}
			p.Box = api.Box{Next: n, Sent: make([]api.Sent, 1<<10), In: api.Window{Next: n, Ahead: make([]api.Part, 1<<10)}, Got: make([]api.Item, 1<<10)}
			r := api.Rules{Hello: n, Dead: n, Resend: n, Tries: n}
			hails(t, p, n, says(n, of(2, 1), none))
			hears(t, p, n, api.Part{From: n, Pair: theirs, Seq: n, Items: make([]api.Item, 1<<10)})
			hears(t, p, self, piece(0, 1, false))
			acked(t, p, api.Ack{From: n, Pair: theirs, Next: n, Bits: n})
			sends(t, p, n, make([]api.Item, 1<<10), r)
			sends(t, p, self, list(1, 0), r)
			ticks(t, p, n, r)
			link.Close(p)
			if _, err := link.Again(p, none); err != api.OK {
				t.Errorf("Again of a great one: %d", err)
			}
		}
	}
}

// FuzzLink holds what the calls say of any end against the chapter's words (P22.2 to P22.7).
func FuzzLink(f *testing.F) {
	f.Add(2, uint32(1), uint32(9), uint32(2), uint32(0), 1, uint32(2), uint32(1), 3, 1, 6, 5)
	f.Add(1, uint32(0), uint32(0), uint32(0), uint32(0), 16, uint32(0), uint32(0), 19, 0, 7, 1)
	f.Add(0, uint32(top), uint32(top), uint32(top), uint32(top), -1, uint32(top), uint32(top), math.MaxInt, math.MinInt, -1, math.MaxInt)
	f.Add(2, uint32(1), uint32(top), uint32(2), uint32(0), 15, uint32(3), uint32(0), 20, 2, 14, 0)
	f.Fuzz(func(t *testing.T, state int, a, b, c, d uint32, at int, e, g uint32, quiet, wait, seq, n int) {
		p := between(state, of(a, b), of(c, d))
		p.Quiet, p.Wait = quiet, wait
		for _, h := range []api.Hello{says(at, of(e, g), of(a, b)), says(at&15, of(e, g), of(a, b)), says(at&15, of(c, d), of(a, b)), says(at&15, of(c, d), of(e, g))} {
			hails(t, p, at, h)
			hails(t, p, at&15, h)
		}
		for _, other := range []api.Pair{pair(of(c, d), of(a, b)), pair(of(e, g), of(a, b)), pair(of(c, d), of(e, g))} {
			x := piece(seq, n&7, n&8 == 0)
			x.Pair = other
			hears(t, p, at, x)
			hears(t, p, at&15, x)
			acked(t, p, api.Ack{From: at, Pair: other, Next: seq, Bits: n})
		}
		r := api.Rules{Hello: n, Dead: quiet, Resend: wait, Tries: n & 3}
		sends(t, p, at&15, list(n&63, seq&63), r)
		ticks(t, p, at&15, r)
		want, wantErr := againOf(p, of(e, g))
		if got, err := link.Again(p, of(e, g)); !like(got, want) || err != wantErr {
			t.Fatalf("Again of %s: %s; %d", text(p), text(got), err)
		}
	})
}
