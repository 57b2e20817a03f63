package shake_test

import (
	"math"
	"math/rand"
	"slices"
	"strconv"
	"testing"

	"fingerpost/api"
	"fingerpost/shake"
)

const top = math.MaxUint32

// none is the epoch of no session.
var none api.Epoch

// states are those that there are, and numbers that are none.
var states = []int{api.StateOff, api.StateTrying, api.StateUp, -1, 3, 255, 256, 258, 1 << 32, 1<<32 + 2, math.MinInt, math.MaxInt}

// epochs are none, and some that are older and newer by either number.
var epochs = []api.Epoch{none, of(0, 1), of(0, top), of(1, 0), of(1, 9), of(2, 0), of(2, 1), of(1<<31, 0), of(top, 0), of(top, top)}

// senders are nodes, and numbers that are none, some of which have a node in their lowest byte.
var senders = []int{0, 1, 15, 16, 17, 256, 259, -1, -16, 1<<32 + 3, math.MinInt, math.MaxInt}

// of is an epoch of two numbers.
func of(boot, local uint32) api.Epoch {
	return api.Epoch{Boot: boot, Local: local}
}

// pair is a pair of two epochs.
func pair(mine, theirs api.Epoch) api.Pair {
	return api.Pair{Mine: mine, Theirs: theirs}
}

// says is a hello of a node and two epochs.
func says(from int, mine, theirs api.Epoch) api.Hello {
	return api.Hello{From: from, Pair: pair(mine, theirs)}
}

// box is a session in the midst of all.
func box() api.Box {
	ahead := []api.Part{{From: 2, Seq: 7, More: true, Items: []api.Item{{Dest: 1, Dist: 4, Pred: 3}, {Dest: 2}}}, {From: 2, Seq: 9}}
	return api.Box{
		Next: 5,
		Sent: []api.Sent{{Seq: 3, Bytes: "three", Tries: 2, Left: 1}, {Seq: 4, Bytes: "four", Tries: 1, Left: 6}},
		In:   api.Window{Next: 6, Ahead: ahead},
		Got:  []api.Item{{Dest: 8, Kind: 1, Dist: 9, Pred: 4}},
	}
}

// full is an end with something in each of its fields.
func full(state int, mine, theirs api.Epoch) api.Port {
	return api.Port{State: state, Mine: mine, Theirs: theirs, Quiet: 7, Wait: 4, Box: box()}
}

// alike tells by the fields whether a and b are the same part.
func alike(a, b api.Part) bool {
	return a.From == b.From && a.Pair == b.Pair && a.Seq == b.Seq && a.More == b.More && slices.Equal(a.Items, b.Items)
}

// likeBox tells by the fields whether a and b are the same.
func likeBox(a, b api.Box) bool {
	return a.Next == b.Next && slices.Equal(a.Sent, b.Sent) && a.In.Next == b.In.Next && slices.EqualFunc(a.In.Ahead, b.In.Ahead, alike) && slices.Equal(a.Got, b.Got)
}

// like tells by the fields whether a and b are the same.
func like(a, b api.Port) bool {
	return a.State == b.State && a.Mine == b.Mine && a.Theirs == b.Theirs && a.Quiet == b.Quiet && a.Wait == b.Wait && likeBox(a.Box, b.Box)
}

// text is the numbers of p, and of its session how many there are of each.
func text(p api.Port) string {
	s := "state " + strconv.Itoa(p.State)
	for _, e := range []api.Epoch{p.Mine, p.Theirs} {
		s += ", " + strconv.FormatUint(uint64(e.Boot), 10) + "." + strconv.FormatUint(uint64(e.Local), 10)
	}
	for _, n := range []int{p.Quiet, p.Wait, p.Box.Next, len(p.Box.Sent), p.Box.In.Next, len(p.Box.In.Ahead), len(p.Box.Got)} {
		s += ", " + strconv.Itoa(n)
	}
	return s
}

// later tells by chapter 5's words whether a is newer than b.
func later(a, b api.Epoch) bool {
	return a.Boot > b.Boot || a.Boot == b.Boot && a.Local > b.Local
}

// isNode tells by chapter 3's words whether n is one.
func isNode(n int) bool {
	return n >= 0 && n <= 15
}

// hearOf is Hear by the chapter's words, a step at a time.
func hearOf(p api.Port, h api.Hello) (api.Port, int) {
	off := p.State == 0
	right := isNode(h.From) && h.Pair.Mine != none
	if off || !right {
		return p, 0
	}
	if later(p.Theirs, h.Pair.Mine) {
		return p, 3
	}
	if later(h.Pair.Mine, p.Theirs) {
		if p.State == 2 {
			return p, 2
		}
		p.Theirs = h.Pair.Mine
	}
	p.Quiet = 0
	if p.State == 1 && h.Pair.Theirs == p.Mine && p.Mine != none {
		p.State = 2
		return p, 1
	}
	return p, 0
}

// hears looks whether Hear does what the chapter says, and answers what it does.
func hears(t *testing.T, p api.Port, h api.Hello) (api.Port, int) {
	t.Helper()
	want, wantCame := hearOf(p, h)
	got, came := shake.Hear(p, h)
	if !like(got, want) || came != wantCame {
		t.Fatalf("Hear of %v at %s: %s; %d, want %s; %d", h, text(p), text(got), came, text(want), wantCame)
	}
	return got, came
}

func TestNew(t *testing.T) { // P20.1
	if got := shake.New(); !like(got, api.Port{}) || got.State != api.StateOff {
		t.Errorf("New: %s", text(got))
	}
}

func TestBegin(t *testing.T) { // P20.2
	for _, state := range states {
		for _, mine := range epochs {
			for _, theirs := range epochs {
				want := api.Port{State: 1, Mine: mine, Theirs: theirs}
				for _, p := range []api.Port{shake.New(), full(state, mine, theirs), full(state, theirs, mine), full(state, of(4, 4), of(5, 5))} {
					if got := shake.Begin(p, mine, theirs); !like(got, want) {
						t.Fatalf("Begin of %s with %v, %v: %s", text(p), mine, theirs, text(got))
					}
				}
			}
		}
	}
}

func TestPair(t *testing.T) { // P20.3
	for _, state := range states {
		for _, mine := range epochs {
			for _, theirs := range epochs {
				if got := shake.Pair(full(state, mine, theirs)); got.Mine != mine || got.Theirs != theirs {
					t.Fatalf("Pair in the state %d of %v, %v: %v", state, mine, theirs, got)
				}
			}
		}
	}
	if got := shake.Pair(shake.New()); got != pair(none, none) {
		t.Errorf("Pair of a new one: %v", got)
	}
}

func TestExample(t *testing.T) { // P20.4, the chapter's example
	p := full(api.StateUp, of(1, 0), of(3, 0))
	if got, came := shake.Hear(p, says(2, of(2, 9), of(1, 0))); !like(got, p) || came != api.CameOld {
		t.Errorf("Hear of an older epoch: %s; %d", text(got), came)
	}
}

func TestHear(t *testing.T) { // P20.4
	for what, c := range map[string]struct {
		state        int
		mine, theirs api.Epoch
		h            api.Hello
		state2       int
		theirs2      api.Epoch
		quiet        int
		came         int
	}{
		"off":                                    {0, of(1, 0), of(2, 0), says(3, of(2, 0), of(1, 0)), 0, of(2, 0), 7, 0},
		"off, of a newer one":                    {0, of(1, 0), of(2, 0), says(3, of(3, 0), of(1, 0)), 0, of(2, 0), 7, 0},
		"off, of an older one":                   {0, of(1, 0), of(2, 0), says(3, of(1, 0), of(1, 0)), 0, of(2, 0), 7, 0},
		"no node":                                {1, of(1, 0), of(2, 0), says(16, of(2, 0), of(1, 0)), 1, of(2, 0), 7, 0},
		"no node, of an older one":               {1, of(1, 0), of(2, 0), says(-1, of(1, 0), of(1, 0)), 1, of(2, 0), 7, 0},
		"no node, of a newer one, up":            {2, of(1, 0), of(2, 0), says(256, of(3, 0), of(1, 0)), 2, of(2, 0), 7, 0},
		"no epoch of its own":                    {1, of(1, 0), of(2, 0), says(3, none, of(1, 0)), 1, of(2, 0), 7, 0},
		"no epoch of its own, of none":           {1, of(1, 0), none, says(3, none, of(1, 0)), 1, none, 7, 0},
		"an older start":                         {1, of(1, 0), of(2, 0), says(3, of(1, 9), of(1, 0)), 1, of(2, 0), 7, 3},
		"an older start, up":                     {2, of(1, 0), of(2, 0), says(3, of(1, 9), of(1, 0)), 2, of(2, 0), 7, 3},
		"an older one of that start":             {1, of(1, 0), of(2, 5), says(3, of(2, 4), of(1, 0)), 1, of(2, 5), 7, 3},
		"an older one of that start, up":         {2, of(1, 0), of(2, 5), says(3, of(2, 4), of(1, 0)), 2, of(2, 5), 7, 3},
		"a newer start, up":                      {2, of(1, 0), of(2, 5), says(3, of(3, 0), of(1, 0)), 2, of(2, 5), 7, 2},
		"a newer one of that start, up":          {2, of(1, 0), of(2, 5), says(3, of(2, 6), none), 2, of(2, 5), 7, 2},
		"a newer one than none, up":              {2, of(1, 0), none, says(3, of(0, 1), of(1, 0)), 2, none, 7, 2},
		"a first one that knows nothing":         {1, of(1, 0), none, says(3, of(2, 0), none), 1, of(2, 0), 0, 0},
		"a first one that knows this one":        {1, of(1, 0), none, says(0, of(2, 0), of(1, 0)), 2, of(2, 0), 0, 1},
		"a first one that knows an older one":    {1, of(1, 1), none, says(15, of(2, 0), of(1, 0)), 1, of(2, 0), 0, 0},
		"a first one that knows a newer one":     {1, of(1, 1), none, says(15, of(2, 0), of(1, 2)), 1, of(2, 0), 0, 0},
		"a newer start that knows this one":      {1, of(1, 0), of(2, 0), says(3, of(3, 0), of(1, 0)), 2, of(3, 0), 0, 1},
		"a newer start that knows nothing":       {1, of(1, 0), of(2, 0), says(3, of(3, 0), none), 1, of(3, 0), 0, 0},
		"the same one that knows this one":       {1, of(1, 0), of(2, 0), says(3, of(2, 0), of(1, 0)), 2, of(2, 0), 0, 1},
		"the same one that knows nothing":        {1, of(1, 0), of(2, 0), says(3, of(2, 0), none), 1, of(2, 0), 0, 0},
		"the same one that knows its own":        {1, of(1, 0), of(2, 0), says(3, of(2, 0), of(2, 0)), 1, of(2, 0), 0, 0},
		"the same one that knows this one, up":   {2, of(1, 0), of(2, 0), says(3, of(2, 0), of(1, 0)), 2, of(2, 0), 0, 0},
		"the same one that knows nothing, up":    {2, of(1, 0), of(2, 0), says(3, of(2, 0), none), 2, of(2, 0), 0, 0},
		"the same one that knows a newer, up":    {2, of(1, 0), of(2, 0), says(3, of(2, 0), of(1, 1)), 2, of(2, 0), 0, 0},
		"nothing known of one without an epoch":  {1, none, none, says(3, of(2, 0), none), 1, of(2, 0), 0, 0},
		"the same again without an epoch":        {1, none, of(2, 0), says(3, of(2, 0), none), 1, of(2, 0), 0, 0},
		"both ends of one epoch":                 {1, of(4, 4), of(4, 4), says(3, of(4, 4), of(4, 4)), 2, of(4, 4), 0, 1},
		"a local above all, of an older start":   {1, of(1, 0), of(2, 0), says(3, of(1, top), of(1, 0)), 1, of(2, 0), 7, 3},
		"the last epoch behind the one ahead":    {2, of(1, 0), of(top, top-1), says(3, of(top, top), of(1, 0)), 2, of(top, top-1), 7, 2},
		"the last epoch that knows the last one": {1, of(top, top), of(top, 0), says(3, of(top, top), of(top, top)), 2, of(top, top), 0, 1},
		"no state":                               {3, of(1, 0), of(2, 0), says(3, of(3, 0), of(1, 0)), 3, of(3, 0), 0, 0},
		"no state, of an older one":              {-1, of(1, 0), of(2, 0), says(3, of(1, 0), of(1, 0)), -1, of(2, 0), 7, 3},
	} {
		p := full(c.state, c.mine, c.theirs)
		want := full(c.state2, c.mine, c.theirs2)
		want.Quiet = c.quiet
		if got, came := shake.Hear(p, c.h); !like(got, want) || came != c.came {
			t.Errorf("%s: %s; %d, want %s; %d", what, text(got), came, text(want), c.came)
		}
		hears(t, p, c.h)
	}
}

func TestHearOfAny(t *testing.T) { // P20.4
	many := map[int]int{}
	for _, state := range states {
		for _, mine := range epochs {
			for _, theirs := range epochs {
				p := full(state, mine, theirs)
				for _, own := range epochs {
					for _, known := range epochs {
						_, came := hears(t, p, says(int(own.Local&15), own, known))
						many[came]++
					}
				}
				for _, from := range senders {
					hears(t, p, says(from, of(2, 0), mine))
					hears(t, p, says(from, of(2, 1), mine))
					hears(t, p, says(from, none, mine))
				}
			}
		}
	}
	for came := range 4 {
		if many[came] < 100 {
			t.Errorf("of %d just %d came: too few to tell much", came, many[came])
		}
	}
}

func TestHearQuiet(t *testing.T) { // P20.4
	// However long nothing was heard: what is heard ends it, and what is old, or of a session that is over, does not.
	for _, quiet := range []int{0, 1, 1000, -1, math.MaxInt, math.MinInt} {
		for _, wait := range []int{0, 1, -1, math.MaxInt, math.MinInt} {
			for _, own := range []api.Epoch{of(1, 9), of(2, 0), of(3, 0)} {
				for _, state := range states {
					p := full(state, of(1, 0), of(2, 0))
					p.Quiet, p.Wait = quiet, wait
					got, came := hears(t, p, says(3, own, of(1, 0)))
					heard := state != api.StateOff && came != api.CameOld && came != api.CameDown
					if heard && got.Quiet != 0 || !heard && got.Quiet != quiet || got.Wait != wait {
						t.Fatalf("Hear of %v in the state %d: Quiet %d, Wait %d, of %d, %d", own, state, got.Quiet, got.Wait, quiet, wait)
					}
				}
			}
		}
	}
}

func TestHolds(t *testing.T) { // P20.5
	for _, state := range states {
		p := full(state, of(1, 9), of(2, 0))
		for _, c := range []struct {
			theirs api.Pair
			want   bool
		}{
			{pair(of(2, 0), of(1, 9)), true},
			{pair(of(1, 9), of(2, 0)), false},
			{pair(of(2, 0), of(1, 8)), false},
			{pair(of(2, 0), of(0, 9)), false},
			{pair(of(2, 1), of(1, 9)), false},
			{pair(of(3, 0), of(1, 9)), false},
			{pair(of(2, 0), none), false},
			{pair(none, of(1, 9)), false},
			{pair(none, none), false},
		} {
			if got, want := shake.Holds(p, c.theirs), c.want && state == api.StateUp; got != want {
				t.Errorf("Holds of %s and %v: %t", text(p), c.theirs, got)
			}
		}
	}
	for _, state := range states {
		for _, mine := range epochs {
			for _, theirs := range epochs {
				for _, own := range epochs {
					for _, known := range epochs {
						got := shake.Holds(full(state, mine, theirs), pair(own, known))
						if want := state == 2 && own == theirs && known == mine && own != none && known != none; got != want {
							t.Fatalf("Holds in the state %d of %v, %v and %v, %v: %t", state, mine, theirs, own, known, got)
						}
					}
				}
			}
		}
	}
}

func TestSame(t *testing.T) { // P20.6
	changes := map[string]func(p *api.Port){
		"State":              func(p *api.Port) { p.State = api.StateTrying },
		"a State that's off": func(p *api.Port) { p.State = api.StateOff },
		"a State above":      func(p *api.Port) { p.State += 256 },
		"Mine's Boot":        func(p *api.Port) { p.Mine.Boot++ },
		"Mine's Local":       func(p *api.Port) { p.Mine.Local++ },
		"Theirs' Boot":       func(p *api.Port) { p.Theirs.Boot = top },
		"Theirs' Local":      func(p *api.Port) { p.Theirs.Local-- },
		"epochs the other way round": func(p *api.Port) {
			p.Mine, p.Theirs = p.Theirs, p.Mine
		},
		"Quiet":           func(p *api.Port) { p.Quiet = math.MinInt },
		"Wait":            func(p *api.Port) { p.Wait++ },
		"Wait and Quiet":  func(p *api.Port) { p.Wait, p.Quiet = p.Quiet, p.Wait },
		"Box":             func(p *api.Port) { p.Box = api.Box{} },
		"Box's Next":      func(p *api.Port) { p.Box.Next++ },
		"Sent's length":   func(p *api.Port) { p.Box.Sent = p.Box.Sent[:1] },
		"Sent's order":    func(p *api.Port) { slices.Reverse(p.Box.Sent) },
		"Sent's Seq":      func(p *api.Port) { p.Box.Sent[1].Seq++ },
		"Sent's Bytes":    func(p *api.Port) { p.Box.Sent[1].Bytes = "fouR" },
		"Sent's Tries":    func(p *api.Port) { p.Box.Sent[0].Tries++ },
		"Sent's Left":     func(p *api.Port) { p.Box.Sent[0].Left++ },
		"In's Next":       func(p *api.Port) { p.Box.In.Next++ },
		"Ahead's length":  func(p *api.Port) { p.Box.In.Ahead = p.Box.In.Ahead[:1] },
		"Ahead's From":    func(p *api.Port) { p.Box.In.Ahead[0].From++ },
		"Ahead's Pair":    func(p *api.Port) { p.Box.In.Ahead[1].Pair.Theirs.Local++ },
		"Ahead's Seq":     func(p *api.Port) { p.Box.In.Ahead[1].Seq++ },
		"Ahead's More":    func(p *api.Port) { p.Box.In.Ahead[1].More = true },
		"Ahead's Items":   func(p *api.Port) { p.Box.In.Ahead[0].Items = nil },
		"an item's Dist":  func(p *api.Port) { p.Box.In.Ahead[0].Items[1].Dist++ },
		"Got's length":    func(p *api.Port) { p.Box.Got = nil },
		"Got's Kind":      func(p *api.Port) { p.Box.Got[0].Kind++ },
		"Got, once again": func(p *api.Port) { p.Box.Got = append(p.Box.Got, p.Box.Got...) },
	}
	for what, change := range changes {
		a, b := full(api.StateUp, of(1, 9), of(2, 5)), full(api.StateUp, of(1, 9), of(2, 5))
		change(&b)
		if shake.Same(a, b) || shake.Same(b, a) {
			t.Errorf("with another %s they are the same", what)
		}
		change(&a)
		if !shake.Same(a, b) || !shake.Same(b, a) {
			t.Errorf("with another %s of both they are not the same", what)
		}
	}
}

func TestSameOfNoLists(t *testing.T) { // P20.6, R3
	a := shake.Begin(shake.New(), of(1, 0), none)
	b := a
	b.Box = api.Box{Sent: []api.Sent{}, In: api.Window{Ahead: []api.Part{}}, Got: []api.Item{}}
	if !shake.Same(a, b) || !shake.Same(b, a) || !shake.Same(shake.New(), api.Port{}) || shake.Same(a, shake.New()) {
		t.Error("empty lists are not as none")
	}
}

// end is a node at one end of a session.
type end struct {
	node int
	p    api.Port
}

// begun is a node that began with that epoch, and knows nothing.
func begun(node int, mine api.Epoch) *end {
	return &end{node, shake.Begin(shake.New(), mine, none)}
}

// hello is what e says.
func (e *end) hello() api.Hello {
	return api.Hello{From: e.node, Pair: shake.Pair(e.p)}
}

// hear is what comes at e of h.
func (e *end) hear(h api.Hello) int {
	p, came := shake.Hear(e.p, h)
	e.p = p
	return came
}

// together tells whether both ends are up, with the same session.
func together(a, b *end) bool {
	return a.p.State == api.StateUp && b.p.State == api.StateUp && shake.Holds(a.p, shake.Pair(b.p)) && shake.Holds(b.p, shake.Pair(a.p))
}

// wants looks whether what came is as it must be.
func wants(t *testing.T, what string, came, want int) {
	t.Helper()
	if came != want {
		t.Fatalf("%s: %d, want %d", what, came, want)
	}
}

// joined is two ends that three hellos brought up.
func joined(t *testing.T, mine, theirs api.Epoch) (*end, *end) {
	t.Helper()
	a, b := begun(1, mine), begun(6, theirs)
	wants(t, "the first hello", b.hear(a.hello()), api.CameNothing)
	wants(t, "the second hello", a.hear(b.hello()), api.CameUp)
	if together(a, b) || b.p.State != api.StateTrying {
		t.Fatalf("two hellos: %s, %s", text(a.p), text(b.p))
	}
	wants(t, "the third hello", b.hear(a.hello()), api.CameUp)
	if !together(a, b) {
		t.Fatalf("three hellos: %s, %s", text(a.p), text(b.p))
	}
	return a, b
}

func TestThreeHellos(t *testing.T) { // P20.7
	for _, mine := range epochs[1:] {
		for _, theirs := range epochs[1:] {
			a, b := joined(t, mine, theirs)
			if shake.Pair(a.p) != pair(mine, theirs) || shake.Pair(b.p) != pair(theirs, mine) {
				t.Fatalf("of %v and %v: %s, %s", mine, theirs, text(a.p), text(b.p))
			}
			// More of them change nothing.
			for range 3 {
				wants(t, "a hello of one that is up", b.hear(a.hello()), api.CameNothing)
				wants(t, "a hello of the other one", a.hear(b.hello()), api.CameNothing)
			}
			if !together(a, b) {
				t.Fatalf("more hellos: %s, %s", text(a.p), text(b.p))
			}
		}
	}
}

func TestBothAtOnce(t *testing.T) { // P20.7
	a, b := begun(1, of(1, 0)), begun(6, of(1, 0))
	one, other := a.hello(), b.hello()
	wants(t, "the one's first hello", b.hear(one), api.CameNothing)
	wants(t, "the other one's first hello", a.hear(other), api.CameNothing)
	one, other = a.hello(), b.hello()
	wants(t, "the one's second hello", b.hear(one), api.CameUp)
	wants(t, "the other one's second hello", a.hear(other), api.CameUp)
	if !together(a, b) {
		t.Errorf("both at once: %s, %s", text(a.p), text(b.p))
	}
}

func TestTwoHellosAreTooFew(t *testing.T) { // P20.7
	// Who never is answered stays as it was: nobody knows it.
	a := begun(1, of(1, 0))
	for range 5 {
		wants(t, "a hello that knows nothing", a.hear(says(6, of(2, 0), none)), api.CameNothing)
		wants(t, "a hello that knows another one", a.hear(says(6, of(2, 0), of(0, 9))), api.CameNothing)
	}
	if a.p.State != api.StateTrying || shake.Holds(a.p, pair(of(2, 0), of(1, 0))) {
		t.Errorf("hellos that know nothing: %s", text(a.p))
	}
}

func TestBeginsAnew(t *testing.T) { // P20.7
	for _, anew := range []api.Epoch{of(1, 10), of(2, 0), of(top, top)} {
		a, b := joined(t, of(1, 9), of(5, 0))
		was, late := b.p, a.hello()
		a.p = shake.Begin(a.p, anew, none)
		for range 2 {
			wants(t, "a hello of one that began anew", b.hear(a.hello()), api.CameDown)
		}
		if !like(b.p, was) || shake.Holds(b.p, shake.Pair(a.p)) {
			t.Fatalf("a hello of one that began anew: %s, want %s", text(b.p), text(was))
		}
		// What the other one said before is of a session that is no more.
		wants(t, "a hello to the one that was", a.hear(b.hello()), api.CameNothing)
		b.p = shake.Begin(b.p, of(5, 1), anew)
		wants(t, "an old hello", b.hear(late), api.CameOld)
		wants(t, "a hello to the new one", a.hear(b.hello()), api.CameUp)
		wants(t, "a hello of the new one", b.hear(a.hello()), api.CameUp)
		if !together(a, b) || shake.Pair(a.p) != pair(anew, of(5, 1)) {
			t.Fatalf("anew with %v: %s, %s", anew, text(a.p), text(b.p))
		}
		wants(t, "an old hello at one that is up", b.hear(late), api.CameOld)
	}
}

func TestBeginsAnewAtOneThatTries(t *testing.T) { // P20.7
	a, b := begun(1, of(1, 0)), begun(6, of(1, 0))
	late := a.hello()
	wants(t, "a first hello", b.hear(late), api.CameNothing)
	a.p = shake.Begin(a.p, of(2, 0), none)
	wants(t, "a hello of one that began anew", b.hear(a.hello()), api.CameNothing)
	if b.p.Theirs != of(2, 0) {
		t.Errorf("one that began anew is known as %v", b.p.Theirs)
	}
	wants(t, "an old hello", b.hear(late), api.CameOld)
	wants(t, "a hello that knows the new one", a.hear(b.hello()), api.CameUp)
	wants(t, "a hello of the new one", b.hear(a.hello()), api.CameUp)
	if !together(a, b) {
		t.Errorf("anew: %s, %s", text(a.p), text(b.p))
	}
}

// line is two ends, and all the hellos that were said to each.
type line struct {
	t    *testing.T
	ends [2]*end
	said [2][]api.Hello
}

// say is a hello of that end, said to the other one.
func (n *line) say(at int) {
	n.said[1-at] = append(n.said[1-at], n.ends[at].hello())
}

// hear brings h to that end, which begins anew where the other one did.
func (n *line) hear(at int, h api.Hello) {
	n.t.Helper()
	e := n.ends[at]
	was := e.p
	came := e.hear(h)
	want, wantCame := hearOf(was, h)
	if !like(e.p, want) || came != wantCame {
		n.t.Fatalf("Hear of %v at %s: %s; %d", h, text(was), text(e.p), came)
	}
	if came == api.CameDown {
		e.p = shake.Begin(e.p, of(e.p.Mine.Boot, e.p.Mine.Local+1), h.Pair.Mine)
	}
}

// anew begins that end anew: started once more, or just its session.
func (n *line) anew(at int, start bool) {
	e := n.ends[at]
	mine := of(e.p.Mine.Boot, e.p.Mine.Local+1)
	theirs := e.p.Theirs
	if start {
		mine, theirs = of(mine.Boot+1, 0), none
	}
	e.p = shake.Begin(e.p, mine, theirs)
}

// sane tells whether what each end knows of the other one is what that was at some time, and what it holds is a session that the other one told.
func (n *line) sane() bool {
	for at, e := range n.ends {
		other := n.ends[1-at]
		if later(e.p.Theirs, other.p.Mine) {
			return false
		}
		told := func(h api.Hello) bool { return h.Pair == pair(e.p.Theirs, e.p.Mine) }
		if e.p.State == api.StateUp && !slices.ContainsFunc(n.said[at], told) {
			return false
		}
	}
	return true
}

func TestWhateverIsLost(t *testing.T) { // P20.7
	for seed := range int64(200) {
		r := rand.New(rand.NewSource(seed))
		n := &line{t: t, ends: [2]*end{begun(1, of(1, 0)), begun(6, of(1, 0))}}
		for range 300 {
			at := r.Intn(2)
			switch x := r.Intn(20); {
			case x == 0:
				n.anew(at, r.Intn(2) == 0)
			case x < 8:
				n.say(at)
			case len(n.said[at]) > 0:
				// Any that ever was said: it may come late, and twice, or never.
				back := min(len(n.said[at]), 1+r.Intn(1+r.Intn(10)))
				n.hear(at, n.said[at][len(n.said[at])-back])
			}
			if !n.sane() {
				t.Fatalf("seed %d: %s, %s", seed, text(n.ends[0].p), text(n.ends[1].p))
			}
		}
		// Where none is lost any more both come up, whatever happened.
		for range 4 {
			for at := range 2 {
				n.say(at)
				n.hear(1-at, n.ends[at].hello())
			}
		}
		if !together(n.ends[0], n.ends[1]) || !n.sane() {
			t.Fatalf("seed %d at rest: %s, %s", seed, text(n.ends[0].p), text(n.ends[1].p))
		}
	}
}

// room is l with more behind its end.
func room[T any](l []T, more T) []T {
	return append(slices.Clone(l), more, more)[:len(l)]
}

// deep is p in memory of its own, with all that lies in the rooms behind the ends of its lists.
func deep(p api.Port) api.Port {
	b := p.Box
	b.Sent, b.Got = slices.Clone(b.Sent[:cap(b.Sent)]), slices.Clone(b.Got[:cap(b.Got)])
	b.In.Ahead = slices.Clone(b.In.Ahead[:cap(b.In.Ahead)])
	for i, x := range b.In.Ahead {
		b.In.Ahead[i].Items = slices.Clone(x.Items[:cap(x.Items)])
	}
	p.Box = b
	return p
}

// roomy is full with room behind the end of each of its lists.
func roomy(state int) api.Port {
	p := full(state, of(1, 0), of(2, 0))
	b := &p.Box
	for i, x := range b.In.Ahead {
		b.In.Ahead[i].Items = room(x.Items, api.Item{Dest: 9})
	}
	b.Sent, b.Got = room(b.Sent, api.Sent{Seq: 77}), room(b.Got, api.Item{Dest: 9})
	b.In.Ahead = room(b.In.Ahead, api.Part{Seq: 77})
	return p
}

func TestMemory(t *testing.T) { // R3
	for _, state := range states {
		for _, own := range []api.Epoch{none, of(1, 9), of(2, 0), of(3, 0)} {
			p := roomy(state)
			was := deep(p)
			hears(t, p, says(3, own, of(1, 0)))
			hears(t, p, says(16, own, of(1, 0)))
			shake.Holds(p, pair(own, of(1, 0)))
			shake.Same(p, full(state, own, none))
			shake.Pair(p)
			if !like(deep(p), was) {
				t.Fatalf("in the state %d what was handed in was changed", state)
			}
			got := shake.Begin(p, own, none)
			got.Box.Sent, got.Box.Got = append(got.Box.Sent, api.Sent{}), append(got.Box.Got, api.Item{})
			got.Box.In.Ahead = append(got.Box.In.Ahead, api.Part{})
			if !like(deep(p), was) {
				t.Fatalf("in the state %d what Begin answers shares memory with what was handed in", state)
			}
		}
	}
}

func TestWildOnes(t *testing.T) { // R1
	p := api.Port{State: 1, Mine: of(1, 0), Quiet: math.MaxInt, Wait: math.MinInt}
	p.Box = api.Box{Next: math.MinInt, Sent: make([]api.Sent, 1<<16), In: api.Window{Next: -1, Ahead: make([]api.Part, 1<<16)}, Got: make([]api.Item, 1<<16)}
	got, came := hears(t, p, says(3, of(2, 0), of(1, 0)))
	if came != api.CameUp || !shake.Same(got, got) || shake.Same(p, got) || !shake.Holds(got, pair(of(2, 0), of(1, 0))) {
		t.Errorf("Hear of a great one: %s; %d", text(got), came)
	}
	if got := shake.Begin(p, of(1, 0), none); !like(got, api.Port{State: 1, Mine: of(1, 0)}) {
		t.Errorf("Begin of a great one: %s", text(got))
	}
}

// FuzzShake holds what the calls say of any end against the chapter's words (P20.2 to P20.6).
func FuzzShake(f *testing.F) {
	f.Add(1, uint32(1), uint32(0), uint32(2), uint32(0), 3, uint32(2), uint32(0), uint32(1), uint32(0), 5)
	f.Add(2, uint32(1), uint32(0), uint32(2), uint32(0), 15, uint32(2), uint32(1), uint32(1), uint32(0), math.MaxInt)
	f.Add(1, uint32(0), uint32(0), uint32(0), uint32(0), 16, uint32(0), uint32(0), uint32(0), uint32(0), math.MinInt)
	f.Add(0, uint32(top), uint32(top), uint32(top), uint32(top), 0, uint32(top), uint32(top), uint32(top), uint32(top), 0)
	f.Fuzz(func(t *testing.T, state int, a, b, c, d uint32, from int, e, g, i, j uint32, quiet int) {
		p := full(state, of(a, b), of(c, d))
		p.Quiet = quiet
		h := says(from, of(e, g), of(i, j))
		for _, h := range []api.Hello{h, says(from&15, of(e, g), of(a, b)), says(from&15, of(c, d), of(a, b)), says(from&15, of(c, d), of(i, j))} {
			got, came := hears(t, p, h)
			if shake.Same(p, got) != like(p, got) {
				t.Fatalf("Same of %s and %s", text(p), text(got))
			}
			holds := got.State == 2 && h.Pair == pair(got.Theirs, got.Mine) && got.Mine != none && got.Theirs != none
			if shake.Holds(got, h.Pair) != holds || came == api.CameUp && !holds {
				t.Fatalf("Holds of %s and %v, of which came %d", text(got), h.Pair, came)
			}
			if shake.Pair(got) != pair(got.Mine, got.Theirs) {
				t.Fatalf("Pair of %s", text(got))
			}
		}
		if got := shake.Begin(p, h.Pair.Mine, h.Pair.Theirs); !like(got, api.Port{State: 1, Mine: of(e, g), Theirs: of(i, j)}) {
			t.Fatalf("Begin of %s: %s", text(p), text(got))
		}
	})
}
