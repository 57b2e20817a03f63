package alive_test

import (
	"math"
	"math/rand"
	"slices"
	"strconv"
	"testing"

	"fingerpost/alive"
	"fingerpost/api"
)

// states are those that there are, and numbers that are none.
var states = []int{api.StateOff, api.StateTrying, api.StateUp, -1, 3, 255, 256, 258, 1 << 32, 1<<32 + 2, math.MinInt, math.MaxInt}

// counts are numbers of ticks, with those at the ends of int, and some whose lowest bytes are others.
var counts = []int{math.MinInt, math.MinInt + 1, -1 << 32, -7, -1, 0, 1, 2, 3, 4, 19, 20, 21, 1000, 1001, 1 << 32, 1<<32 + 1, math.MaxInt - 1, math.MaxInt}

// box is a session in the midst of all.
func box() api.Box {
	ahead := []api.Part{{From: 2, Seq: 7, More: true, Items: []api.Item{{Dest: 1, Dist: 4, Pred: 3}, {Dest: 2}}}, {From: 2, Seq: 9}}
	return api.Box{
		Next: 5,
		Sent: []api.Sent{{Seq: 3, Bytes: "three", Tries: 2, Left: 1}, {Seq: 4, Bytes: "four", Tries: 1, Left: 6}},
		In:   api.Window{Next: 6, Ahead: ahead},
		Got:  []api.Item{{Dest: 8, Kind: 1, Dist: 9, Pred: 4}},
	}
}

// full is an end with something in each of its fields.
func full(state, quiet, wait int) api.Port {
	return api.Port{
		State: state, Mine: api.Epoch{Boot: 2, Local: 5}, Theirs: api.Epoch{Boot: 1, Local: 9},
		Quiet: quiet, Wait: wait, Box: box(),
	}
}

// alike tells by the fields whether a and b are the same part.
func alike(a, b api.Part) bool {
	return a.From == b.From && a.Pair == b.Pair && a.Seq == b.Seq && a.More == b.More && slices.Equal(a.Items, b.Items)
}

// likeBox tells by the fields whether a and b are the same.
func likeBox(a, b api.Box) bool {
	return a.Next == b.Next && slices.Equal(a.Sent, b.Sent) && a.In.Next == b.In.Next && slices.EqualFunc(a.In.Ahead, b.In.Ahead, alike) && slices.Equal(a.Got, b.Got)
}

// like tells by the fields whether a and b are the same.
func like(a, b api.Port) bool {
	return a.State == b.State && a.Mine == b.Mine && a.Theirs == b.Theirs && a.Quiet == b.Quiet && a.Wait == b.Wait && likeBox(a.Box, b.Box)
}

// text is the numbers of p, and of its session how many there are of each.
func text(p api.Port) string {
	s := "state"
	for _, n := range []int{p.State, p.Quiet, p.Wait, p.Box.Next, len(p.Box.Sent), p.Box.In.Next, len(p.Box.In.Ahead), len(p.Box.Got)} {
		s += " " + strconv.Itoa(n)
	}
	return s
}

// tickOf is Tick by the chapter's words, a step at a time.
func tickOf(p api.Port, r api.Rules) (api.Port, bool, bool) {
	say, dead := false, false
	if p.State == 0 {
		return p, say, dead
	}
	if p.Wait <= 1 {
		say = true
		p.Wait = r.Hello
		if r.Hello < 1 {
			p.Wait = 1
		}
	} else {
		p.Wait--
	}
	if p.State == 2 {
		if p.Quiet < r.Dead {
			p.Quiet++
		}
		dead = p.Quiet >= r.Dead
	}
	return p, say, dead
}

// ticks looks whether Tick does what the chapter says, and answers what it does.
func ticks(t *testing.T, p api.Port, r api.Rules) (api.Port, bool, bool) {
	t.Helper()
	want, wantSay, wantDead := tickOf(p, r)
	got, say, dead := alive.Tick(p, r)
	if !like(got, want) || say != wantSay || dead != wantDead {
		t.Fatalf("Tick of %s by %v: %s; %t, %t, want %s; %t, %t", text(p), r, text(got), say, dead, text(want), wantSay, wantDead)
	}
	return got, say, dead
}

func TestHeard(t *testing.T) { // P21.1
	for _, state := range states {
		for _, quiet := range counts {
			for _, wait := range counts {
				if got := alive.Heard(full(state, quiet, wait)); !like(got, full(state, 0, wait)) {
					t.Fatalf("Heard in the state %d of Quiet %d, Wait %d: %s", state, quiet, wait, text(got))
				}
			}
		}
	}
	if got := alive.Heard(api.Port{}); !like(got, api.Port{}) {
		t.Errorf("Heard of none: %s", text(got))
	}
}

func TestDue(t *testing.T) { // P21.2
	for what, c := range map[string]struct {
		state, wait int
		want        bool
	}{
		"trying, in a tick":        {api.StateTrying, 1, true},
		"trying, now":              {api.StateTrying, 0, true},
		"trying, in two ticks":     {api.StateTrying, 2, false},
		"up, in a tick":            {api.StateUp, 1, true},
		"up, now":                  {api.StateUp, 0, true},
		"up, in two ticks":         {api.StateUp, 2, false},
		"up, long ago":             {api.StateUp, math.MinInt, true},
		"up, at the end of int":    {api.StateUp, math.MaxInt, false},
		"off, in a tick":           {api.StateOff, 1, false},
		"off, now":                 {api.StateOff, 0, false},
		"off, long ago":            {api.StateOff, math.MinInt, false},
		"off, in two ticks":        {api.StateOff, 2, false},
		"no state, in a tick":      {3, 1, true},
		"no state, in two ticks":   {-1, 2, false},
		"a low byte of 0, a tick":  {256, 1, true},
		"a low byte of 1, to wait": {2, 257, false},
	} {
		if got := alive.Due(full(c.state, 3, c.wait)); got != c.want {
			t.Errorf("%s: %t", what, got)
		}
	}
	for _, state := range states {
		for _, quiet := range counts {
			for _, wait := range counts {
				if got, want := alive.Due(full(state, quiet, wait)), state != 0 && wait <= 1; got != want {
					t.Fatalf("Due in the state %d of Quiet %d, Wait %d: %t", state, quiet, wait, got)
				}
			}
		}
	}
}

func TestExample(t *testing.T) { // P21.2, P21.3, the chapter's example
	for _, state := range []int{api.StateTrying, api.StateUp} {
		p := full(state, 0, 1)
		if !alive.Due(p) {
			t.Errorf("in the state %d with Wait 1 no hello is due", state)
		}
		if _, say, dead := alive.Tick(p, api.Rules{Hello: 5, Dead: 20}); !say || dead {
			t.Errorf("in the state %d with Wait 1 a tick: %t, %t", state, say, dead)
		}
	}
}

func TestTick(t *testing.T) { // P21.3
	for what, c := range map[string]struct {
		state, quiet, wait int
		hello, dead        int
		quiet2, wait2      int
		say, gone          bool
	}{
		"off":                               {0, 3, 1, 5, 20, 3, 1, false, false},
		"off, to wait":                      {0, 3, 4, 5, 20, 3, 4, false, false},
		"off, quiet for long":               {0, 30, 4, 5, 20, 30, 4, false, false},
		"off, without rules":                {0, 0, 0, 0, 0, 0, 0, false, false},
		"trying, a hello":                   {1, 3, 1, 5, 20, 3, 5, true, false},
		"trying, to wait":                   {1, 3, 2, 5, 20, 3, 1, false, false},
		"trying, quiet for long":            {1, 30, 2, 5, 20, 30, 1, false, false},
		"trying, quiet till dead":           {1, 19, 1, 5, 20, 19, 5, true, false},
		"trying, without rules":             {1, 0, 0, 0, 0, 0, 1, true, false},
		"up, a hello":                       {2, 3, 1, 5, 20, 4, 5, true, false},
		"up, a hello that is late":          {2, 3, 0, 5, 20, 4, 5, true, false},
		"up, a hello that is very late":     {2, 3, -7, 5, 20, 4, 5, true, false},
		"up, a hello in a tick":             {2, 3, 2, 5, 20, 4, 1, false, false},
		"up, a hello in as long as may be":  {2, 3, 5, 5, 20, 4, 4, false, false},
		"up, a hello in longer":             {2, 3, 900, 5, 20, 4, 899, false, false},
		"up, a hello each tick":             {2, 3, 1, 1, 20, 4, 1, true, false},
		"up, a hello each no tick":          {2, 3, 1, 0, 20, 4, 1, true, false},
		"up, a hello each less than none":   {2, 3, 1, -9, 20, 4, 1, true, false},
		"up, a hello each other tick":       {2, 3, 1, 2, 20, 4, 2, true, false},
		"up, and not yet dead":              {2, 18, 4, 5, 20, 19, 3, false, false},
		"up, and dead":                      {2, 19, 4, 5, 20, 20, 3, false, true},
		"up, and dead, with a hello":        {2, 19, 1, 5, 20, 20, 5, true, true},
		"up, and still dead":                {2, 20, 4, 5, 20, 20, 3, false, true},
		"up, and dead by other rules":       {2, 40, 4, 5, 20, 40, 3, false, true},
		"up, and dead in one tick":          {2, 0, 4, 5, 1, 1, 3, false, true},
		"up, and dead in no tick":           {2, 0, 4, 5, 0, 0, 3, false, true},
		"up, and dead in less than none":    {2, 0, 4, 5, -3, 0, 3, false, true},
		"up, and less than no tick quiet":   {2, -5, 4, 5, 20, -4, 3, false, false},
		"up, without rules":                 {2, 0, 0, 0, 0, 0, 1, true, true},
		"up, at the upper ends":             {2, math.MaxInt, math.MaxInt, math.MaxInt, math.MaxInt, math.MaxInt, math.MaxInt - 1, false, true},
		"up, a tick ahead of the upper end": {2, math.MaxInt - 1, 1, math.MaxInt, math.MaxInt, math.MaxInt, math.MaxInt, true, true},
		"up, at the lower ends":             {2, math.MinInt, math.MinInt, math.MinInt, math.MinInt, math.MinInt, 1, true, true},
		"up, from one end to the other":     {2, math.MinInt, math.MinInt, 5, math.MaxInt, math.MinInt + 1, 5, true, false},
		"no state":                          {3, 30, 1, 5, 20, 30, 5, true, false},
		"no state, to wait":                 {-1, 30, 3, 5, 20, 30, 2, false, false},
	} {
		p, r := full(c.state, c.quiet, c.wait), api.Rules{Hello: c.hello, Dead: c.dead, Resend: 3, Tries: 2}
		want := full(c.state, c.quiet2, c.wait2)
		if got, say, dead := alive.Tick(p, r); !like(got, want) || say != c.say || dead != c.gone {
			t.Errorf("%s: %s; %t, %t, want %s; %t, %t", what, text(got), say, dead, text(want), c.say, c.gone)
		}
		ticks(t, p, r)
	}
}

func TestTickOfAny(t *testing.T) { // P21.3
	var said, gone int
	for _, state := range states {
		for _, quiet := range counts {
			for _, wait := range counts {
				for _, hello := range counts {
					for _, limit := range counts {
						_, say, dead := ticks(t, full(state, quiet, wait), api.Rules{Hello: hello, Dead: limit})
						if say {
							said++
						}
						if dead {
							gone++
						}
					}
				}
			}
		}
	}
	if said < 1000 || gone < 1000 {
		t.Errorf("%d hellos were said, %d were dead: too few to tell much", said, gone)
	}
}

func TestTickSaysWhatIsDue(t *testing.T) { // P21.2, P21.3
	for _, state := range states {
		for _, wait := range counts {
			p := full(state, 3, wait)
			if _, say, _ := alive.Tick(p, api.Rules{Hello: 5, Dead: 20}); say != alive.Due(p) {
				t.Errorf("in the state %d with Wait %d a hello is due: %t, and sent: %t", state, wait, alive.Due(p), say)
			}
		}
	}
}

func TestTickByOtherRules(t *testing.T) { // P21.3
	// What the rules say of what is sent again says nothing of hellos, and of who is dead.
	for _, n := range counts {
		for _, p := range []api.Port{full(api.StateUp, 19, 1), full(api.StateUp, 18, 2), full(api.StateTrying, 0, 1)} {
			ticks(t, p, api.Rules{Hello: 5, Dead: 20, Resend: n, Tries: 2})
			ticks(t, p, api.Rules{Hello: 5, Dead: 20, Resend: 3, Tries: n})
		}
	}
}

func TestHellosEachHello(t *testing.T) { // P21.4
	for _, state := range []int{api.StateTrying, api.StateUp} {
		for _, hello := range []int{1, 2, 3, 5, 17, 100} {
			p, r := api.Port{State: state}, api.Rules{Hello: hello, Dead: 1000}
			for tick := range 4 * hello {
				q, say, _ := ticks(t, p, r)
				if want := tick%hello == 0; say != want {
					t.Fatalf("in the state %d by Hello %d, tick %d: a hello is sent: %t", state, hello, tick, say)
				}
				p = q
			}
		}
	}
}

func TestDeadBehindDead(t *testing.T) { // P21.4
	for _, limit := range []int{1, 2, 3, 20, 1000} {
		for _, quiet := range []int{0, 1, limit - 1, limit, 5000, math.MaxInt} {
			p, r := alive.Heard(full(api.StateUp, quiet, 1)), api.Rules{Hello: 3, Dead: limit}
			for tick := 1; tick <= limit+3; tick++ {
				q, _, dead := ticks(t, p, r)
				if want := tick >= limit; dead != want {
					t.Fatalf("by Dead %d, %d ticks behind what was heard: dead %t", limit, tick, dead)
				}
				p = q
			}
		}
	}
}

func TestAliveWhileHeard(t *testing.T) { // P21.4
	random := rand.New(rand.NewSource(21))
	var most int
	for range 300 {
		limit := 2 + random.Intn(30)
		p, r := api.Port{State: api.StateUp, Wait: 1}, api.Rules{Hello: 1 + random.Intn(limit), Dead: limit}
		// last is the tick in which something was heard the last time.
		last, said := 0, 0
		for tick := 1; tick <= 500; tick++ {
			q, say, dead := ticks(t, p, r)
			if p = q; dead {
				t.Fatalf("by Dead %d, heard %d ticks ago: dead", limit, tick-last)
			}
			if say {
				if said > 0 && tick-said != r.Hello {
					t.Fatalf("by Hello %d a hello %d ticks behind the one ahead of it", r.Hello, tick-said)
				}
				said = tick
			}
			if tick-last == limit-1 || random.Intn(limit) == 0 {
				most = max(most, tick-last)
				p, last = alive.Heard(p), tick
			}
		}
		for tick := 1; ; tick++ {
			q, _, dead := ticks(t, p, r)
			if p = q; dead {
				if ahead := 500 - last; tick+ahead != limit {
					t.Fatalf("by Dead %d dead %d ticks behind what was heard", limit, tick+ahead)
				}
				break
			}
		}
	}
	if most < 25 {
		t.Errorf("nothing was heard for %d ticks at most: too few to tell much", most)
	}
}

func TestTryingIsNeverDead(t *testing.T) { // P21.3, P21.4
	p, r := api.Port{State: api.StateTrying}, api.Rules{Hello: 2, Dead: 3}
	for tick := range 1000 {
		q, say, dead := ticks(t, p, r)
		if p = q; dead || say != (tick%2 == 0) || p.Quiet != 0 {
			t.Fatalf("tick %d: %s; %t, %t", tick, text(p), say, dead)
		}
	}
}

func TestNothingIsChanged(t *testing.T) { // R3
	sent := make([]api.Sent, 2, 5)
	copy(sent, box().Sent)
	whole := box()
	whole.Sent = sent
	for _, state := range states {
		p := full(state, 3, 1)
		p.Box = whole
		alive.Heard(p)
		alive.Due(p)
		alive.Tick(p, api.Rules{Hello: 5, Dead: 4})
		want := full(state, 3, 1)
		if !like(p, want) || !slices.Equal(sent[:5], append(box().Sent, api.Sent{}, api.Sent{}, api.Sent{})) {
			t.Fatalf("in the state %d what was handed in is changed: %s", state, text(p))
		}
	}
}

func TestOneAnswer(t *testing.T) { // R4
	p, r := full(api.StateUp, 19, 1), api.Rules{Hello: 5, Dead: 20}
	for range 2000 {
		if got, say, dead := alive.Tick(p, r); !say || !dead || got.Quiet != 20 {
			t.Fatalf("one tick is not as the others: %s; %t, %t", text(got), say, dead)
		}
		if got, say, dead := alive.Tick(full(api.StateUp, 18, 2), r); say || dead || got.Quiet != 19 {
			t.Fatalf("one tick is not as the others: %s; %t, %t", text(got), say, dead)
		}
	}
}

func FuzzTick(f *testing.F) { // P21.3, R1
	f.Add(2, 19, 1, 5, 20)
	f.Add(1, 0, 0, 0, 0)
	f.Add(0, 3, 1, 5, 20)
	f.Add(2, math.MaxInt, math.MinInt, math.MinInt, math.MaxInt)
	f.Fuzz(func(t *testing.T, state, quiet, wait, hello, limit int) {
		p, r := full(state, quiet, wait), api.Rules{Hello: hello, Dead: limit}
		q, say, _ := ticks(t, p, r)
		if say != alive.Due(p) {
			t.Errorf("a hello is due: %t, and sent: %t", alive.Due(p), say)
		}
		if got := alive.Heard(q); !like(got, full(state, 0, q.Wait)) {
			t.Errorf("Heard of %s: %s", text(q), text(got))
		}
	})
}
