package part_test

import (
	"encoding/binary"
	"math"
	"math/rand"
	"slices"
	"strings"
	"testing"

	"fingerpost/api"
	"fingerpost/item"
	"fingerpost/part"
)

const (
	top = math.MaxUint32
	// front is what stands ahead of the items of a part of node 3, of the pair 2.1-9.8, with the number 513, behind which more follow.
	front = "\x03\x00\x00\x00\x02\x00\x00\x00\x01\x00\x00\x00\x09\x00\x00\x00\x08\x02\x01\x01"
	self  = "\x30\x00\x00\x00\x00\xff" // node 3's item of itself
)

// senders are nodes, and numbers that are none, some of which have a node in their lowest byte.
var senders = []int{0, 1, 2, 7, 14, 15, 16, 17, 255, 256, 259, -1, -2, -16, -253, 1<<32 + 3, math.MinInt, math.MinInt + 5, math.MaxInt}

// seqs are numbers of parts, and numbers that are none, some of which have one in their lowest bytes.
var seqs = []int{0, 1, 2, 255, 256, 513, 32767, 32768, 64999, 65000, 65001, 65534, 65535, 65536, 65537, 1 << 17, 1<<32 + 5, -1, -2, -65535, -65536, math.MinInt, math.MaxInt}

// pairs are those at which numbers, and ends without a session, are told apart.
var pairs = []api.Pair{
	{},
	of(2, 1, 9, 8),
	of(0, 0, 1, 0),
	of(0, 1, 0, 0),
	of(top, top, top, top),
	of(0x01020304, 0x05060708, 0x090a0b0c, 0x0d0e0f10),
	of(1<<31, 255, 256, 65536),
}

// of is a pair of its four numbers.
func of(boot, local, theirBoot, theirLocal uint32) api.Pair {
	return api.Pair{Mine: api.Epoch{Boot: boot, Local: local}, Theirs: api.Epoch{Boot: theirBoot, Local: theirLocal}}
}

// told is an item of its four numbers.
func told(dest, kind int, dist uint32, pred int) api.Item {
	return api.Item{Dest: dest, Kind: kind, Dist: dist, Pred: pred}
}

// piece is the part of which front is the front, with these items.
func piece(items ...api.Item) api.Part {
	return api.Part{From: 3, Pair: of(2, 1, 9, 8), Seq: 513, More: true, Items: items}
}

// some are so many right items, unlike one another where they are a few, the same ones each time.
func some(many int) []api.Item {
	var l []api.Item
	for i := range many {
		switch {
		case i%5 == 4:
			l = append(l, told(i%16, i%3, math.MaxUint32, -1))
		case i%5 == 3:
			l = append(l, told(i%16, i%3, 0, -1))
		default:
			l = append(l, told(i%16, i%3, uint32(1+70000*(i%14)), (i+1)%16))
		}
	}
	return l
}

// lists are items of parts, right ones and others.
func lists() [][]api.Item {
	l := [][]api.Item{nil, {}}
	for many := 1; many < 10; many++ {
		l = append(l, some(many))
	}
	l = append(l, some(48), some(49))
	for _, many := range []int{1, 6, 7} {
		first, last := some(many), some(many)
		first[0].Kind, last[many-1].Pred = 3, last[many-1].Dest
		l = append(l, first, last)
	}
	return append(l, []api.Item{{}})
}

// parts are some of each sender, number, pair and list of items, right ones and others.
func parts() []api.Part {
	var l []api.Part
	for _, from := range senders {
		for _, seq := range seqs {
			for i, pair := range pairs {
				for _, items := range lists() {
					l = append(l, api.Part{From: from, Pair: pair, Seq: seq, More: (i+len(items))%2 == 0, Items: items})
				}
			}
		}
	}
	return l
}

// right tells by the chapter's words whether p is right.
func right(p api.Part) bool {
	for _, x := range p.Items {
		if !item.Right(x) {
			return false
		}
	}
	return 6*len(p.Items) <= 40 && p.From >= 0 && p.From < 16 && p.Seq >= 0 && p.Seq < 65536
}

// written is p, which is right, in bytes, the highest byte of each number first.
func written(p api.Part) string {
	b := []byte{byte(p.From)}
	for _, n := range []uint32{p.Pair.Mine.Boot, p.Pair.Mine.Local, p.Pair.Theirs.Boot, p.Pair.Theirs.Local} {
		b = binary.BigEndian.AppendUint32(b, n)
	}
	b = append(b, byte(p.Seq/256), byte(p.Seq%256), 0)
	if p.More {
		b[19] = 1
	}
	for _, x := range p.Items {
		b = append(b, byte(16*x.Dest+x.Kind))
		b = binary.BigEndian.AppendUint32(b, x.Dist)
		b = append(b, byte(x.Pred))
	}
	return string(b)
}

// like tells by the fields whether a and b are the same.
func like(a, b api.Part) bool {
	if a.From != b.From || a.Pair != b.Pair || a.Seq != b.Seq || a.More != b.More || len(a.Items) != len(b.Items) {
		return false
	}
	for i, x := range a.Items {
		if x != b.Items[i] {
			return false
		}
	}
	return true
}

// blank tells whether p is a zero value.
func blank(p api.Part) bool {
	return like(p, api.Part{})
}

func TestRight(t *testing.T) { // P8.1
	sent := func(from, seq int) api.Part {
		p := piece(told(3, 0, 0, -1))
		p.From, p.Seq = from, seq
		return p
	}
	for _, c := range []struct {
		p    api.Part
		want bool
	}{
		{api.Part{}, true},
		{piece(), true},
		{sent(0, 0), true},
		{sent(15, 65535), true},
		{sent(3, 65001), true},
		{sent(16, 0), false},
		{sent(-1, 0), false},
		{sent(256, 0), false},
		{sent(math.MinInt, 0), false},
		{sent(math.MaxInt, 0), false},
		{sent(0, 65536), false},
		{sent(0, -1), false},
		{sent(0, math.MinInt), false},
		{sent(0, math.MaxInt), false},
		{piece(api.Item{}), false},
		{piece(told(3, 0, 0, -1), told(3, 3, 0, -1)), false},
		{piece(told(3, 0, 5, 3)), false},
		{piece(some(6)...), true},
		{piece(some(7)...), false},
		{piece(slices.Repeat([]api.Item{told(3, 0, 0, -1)}, 6)...), true},
		{api.Part{Items: some(1), More: true}, true},
	} {
		if got := part.Right(c.p); got != c.want {
			t.Errorf("Right(%v): %t", c.p, got)
		}
	}
	for _, p := range parts() {
		if got := part.Right(p); got != right(p) {
			t.Fatalf("Right(%v): %t", p, got)
		}
	}
}

func TestRightOfItems(t *testing.T) { // P8.1
	for many := range 100 {
		if got := part.Right(piece(some(many)...)); got != (many <= 6) {
			t.Errorf("Right with %d items: %t", many, got)
		}
		for at := range many {
			l := some(many)
			l[at].Dest = 16
			if part.Right(piece(l...)) {
				t.Errorf("Right with %d items, the one at %d being wrong", many, at)
			}
		}
	}
	if part.Right(piece(make([]api.Item, 1<<16)...)) {
		t.Error("Right with many wrong items")
	}
}

func TestBytes(t *testing.T) { // P8.2
	last := piece()
	last.More = false
	for _, c := range []struct {
		p    api.Part
		want string
		err  api.Errno
	}{
		{api.Part{}, strings.Repeat("\x00", 20), api.OK},
		{piece(), front, api.OK},
		{last, front[:19] + "\x00", api.OK},
		{piece(told(3, 0, 0, -1)), front + self, api.OK},
		{piece(told(3, 0, 0, -1), told(7, 2, 0x00010203, 15)), front + self + "\x72\x00\x01\x02\x03\x0f", api.OK},
		{piece(slices.Repeat([]api.Item{told(3, 0, 0, -1)}, 6)...), front + strings.Repeat(self, 6), api.OK},
		{piece(slices.Repeat([]api.Item{told(3, 0, 0, -1)}, 7)...), "", api.ErrArg},
		{api.Part{From: 15, Pair: of(top, top, top, top), Seq: 65535}, "\x0f" + strings.Repeat("\xff", 18) + "\x00", api.OK},
		{api.Part{From: 16}, "", api.ErrArg},
		{api.Part{From: -1}, "", api.ErrArg},
		{api.Part{From: 256}, "", api.ErrArg},
		{api.Part{Seq: 65536}, "", api.ErrArg},
		{api.Part{Seq: -1}, "", api.ErrArg},
		{piece(api.Item{}), "", api.ErrArg},
		{piece(told(3, 0, 0, -1), told(7, 2, 5, 7)), "", api.ErrArg},
		{piece(some(49)...), "", api.ErrArg},
	} {
		if got, err := part.Bytes(c.p); got != c.want || err != c.err {
			t.Errorf("Bytes(%v): %q, %d, want %q, %d", c.p, got, err, c.want, c.err)
		}
	}
	for _, p := range parts() {
		want, wrong := "", api.ErrArg
		if right(p) {
			want, wrong = written(p), api.OK
		}
		if got, err := part.Bytes(p); got != want || err != wrong {
			t.Fatalf("Bytes(%v): %q, %d, want %q, %d", p, got, err, want, wrong)
		}
	}
}

func TestEachSeq(t *testing.T) { // P8.1, P8.2, P8.3
	p := piece(some(2)...)
	for seq := -300; seq < 66000; seq++ {
		p.Seq = seq
		fine := seq >= 0 && seq < 65536
		if part.Right(p) != fine {
			t.Fatalf("Right of the number %d: %t", seq, !fine)
		}
		s, err := part.Bytes(p)
		if !fine {
			if s != "" || err != api.ErrArg {
				t.Fatalf("Bytes of the number %d: %q, %d", seq, s, err)
			}
			continue
		}
		if s != written(p) || err != api.OK {
			t.Fatalf("Bytes of the number %d: %q, %d", seq, s, err)
		}
		if got, err := part.Read(s); !like(got, p) || err != api.OK {
			t.Fatalf("Read(%q): %v, %d", s, got, err)
		}
	}
}

func TestRead(t *testing.T) { // P8.3
	last := piece(told(3, 0, 0, -1))
	last.More = false
	const zeros = "\x00\x00\x00\x00\x00\x00"
	for _, c := range []struct {
		s    string
		want api.Part
		err  api.Errno
	}{
		{"", api.Part{}, api.ErrShort},
		{front[:19], api.Part{}, api.ErrShort},
		{strings.Repeat("\xff", 19), api.Part{}, api.ErrShort},
		{strings.Repeat("\x00", 20), api.Part{}, api.OK},
		{front, piece(), api.OK},
		{front + self, piece(told(3, 0, 0, -1)), api.OK},
		{front[:19] + "\x00" + self, last, api.OK},
		{front + self + "\x72\x00\x01\x02\x03\x0f", piece(told(3, 0, 0, -1), told(7, 2, 0x00010203, 15)), api.OK},
		{front + strings.Repeat(self, 6), piece(slices.Repeat([]api.Item{told(3, 0, 0, -1)}, 6)...), api.OK},
		// More than MaxPart bytes are too many ahead of what is wrong with them.
		{front + strings.Repeat(self, 6) + "\x30\x00\x00\x00", api.Part{}, api.ErrShort},
		{front + strings.Repeat(self, 6) + "\x30\x00\x00\x00\x00", api.Part{}, api.ErrLong},
		{front + strings.Repeat(self, 7), api.Part{}, api.ErrLong},
		{front + zeros + strings.Repeat(self, 6), api.Part{}, api.ErrLong},
		{front + strings.Repeat("\x00", 41), api.Part{}, api.ErrLong},
		{front + strings.Repeat("\x00", 40), api.Part{}, api.ErrForm},
		{"\x10" + front[1:] + strings.Repeat(self, 7), api.Part{}, api.ErrLong},
		// Of the items the first one that is wrong tells what is.
		{front + "\x30", api.Part{}, api.ErrShort},
		{front + self[:5], api.Part{}, api.ErrShort},
		{front + self + "x", api.Part{}, api.ErrShort},
		{front + zeros, api.Part{}, api.ErrForm},
		{front + self + zeros, api.Part{}, api.ErrForm},
		{front + zeros + "x", api.Part{}, api.ErrForm},
		{front + "\x33" + self[1:], api.Part{}, api.ErrForm},
		// What is wrong with the items is told ahead of what is wrong in front of them.
		{"\x10" + front[1:] + self[:5], api.Part{}, api.ErrShort},
		{front[:19] + "\x02" + self[:5], api.Part{}, api.ErrShort},
		{"\x10" + front[1:], api.Part{}, api.ErrForm},
		{"\xff" + front[1:], api.Part{}, api.ErrForm},
		{front[:19] + "\x02", api.Part{}, api.ErrForm},
		{front[:19] + "\xff", api.Part{}, api.ErrForm},
		{"\x10" + front[1:] + self, api.Part{}, api.ErrForm},
		{front[:19] + "\x02" + self, api.Part{}, api.ErrForm},
	} {
		if got, err := part.Read(c.s); !like(got, c.want) || err != c.err {
			t.Errorf("Read(%q): %v, %d, want %v, %d", c.s, got, err, c.want, c.err)
		}
	}
}

func TestReadOfEachFromAndMore(t *testing.T) { // P8.3
	for from := range 256 {
		for more := range 256 {
			s := string([]byte{byte(from)}) + front[1:19] + string([]byte{byte(more)}) + self
			got, err := part.Read(s)
			if from > 15 || more > 1 {
				if !blank(got) || err != api.ErrForm {
					t.Fatalf("Read(%q): %v, %d", s, got, err)
				}
				continue
			}
			want := piece(told(3, 0, 0, -1))
			want.From, want.More = from, more == 1
			if !like(got, want) || err != api.OK {
				t.Fatalf("Read(%q): %v, %d, want %v", s, got, err, want)
			}
		}
	}
}

func TestReadOfEachLength(t *testing.T) { // P8.3
	long := front + strings.Repeat(self, 100)
	for n := range len(long) + 1 {
		var want api.Part
		wrong := api.OK
		switch {
		case n < 20:
			wrong = api.ErrShort
		case n > 60:
			wrong = api.ErrLong
		case (n-20)%6 != 0:
			wrong = api.ErrShort
		default:
			want = piece(slices.Repeat([]api.Item{told(3, 0, 0, -1)}, (n-20)/6)...)
		}
		if got, err := part.Read(long[:n]); !like(got, want) || err != wrong {
			t.Errorf("Read of %d bytes: %v, %d, want %d", n, got, err, wrong)
		}
	}
}

func TestSame(t *testing.T) { // P8.4
	whole := func() api.Part { return piece(some(4)...) }
	if !part.Same(whole(), whole()) {
		t.Error("Same of two that are alike: false")
	}
	for i, change := range []func(p *api.Part){
		func(p *api.Part) { p.From = 4 },
		func(p *api.Part) { p.From = 259 },
		func(p *api.Part) { p.Pair.Mine.Boot++ },
		func(p *api.Part) { p.Pair.Mine.Local++ },
		func(p *api.Part) { p.Pair.Theirs.Boot++ },
		func(p *api.Part) { p.Pair.Theirs.Local++ },
		func(p *api.Part) { p.Seq++ },
		func(p *api.Part) { p.Seq += 65536 },
		func(p *api.Part) { p.More = false },
		func(p *api.Part) { p.Items = nil },
		func(p *api.Part) { p.Items = p.Items[1:] },
		func(p *api.Part) { p.Items = p.Items[:3] },
		func(p *api.Part) { p.Items = append(p.Items, p.Items[0]) },
		func(p *api.Part) { p.Items[0], p.Items[1] = p.Items[1], p.Items[0] },
		func(p *api.Part) { p.Items[0].Dest = 15 },
		func(p *api.Part) { p.Items[3].Dest = 15 },
		func(p *api.Part) { p.Items[3].Kind = 1 },
		func(p *api.Part) { p.Items[2].Dist++ },
		func(p *api.Part) { p.Items[3].Dist = math.MaxUint32 },
		func(p *api.Part) { p.Items[3].Pred = 255 },
		func(p *api.Part) { p.Items = make([]api.Item, 1<<16) },
	} {
		p := whole()
		change(&p)
		if part.Same(whole(), p) || part.Same(p, whole()) {
			t.Errorf("Same of one that change %d made another one: true", i)
		}
		if !part.Same(p, p) {
			t.Errorf("Same of %v and itself: false", p)
		}
	}
}

func TestSameOfNoItems(t *testing.T) { // P8.4, R3
	none, empty := piece(), piece()
	none.Items, empty.Items = nil, make([]api.Item, 0, 4)
	if !part.Same(none, empty) || !part.Same(empty, none) || !part.Same(api.Part{}, api.Part{}) {
		t.Error("Same of two without items: false")
	}
	if one := piece(api.Item{}); part.Same(none, one) || part.Same(one, empty) {
		t.Error("Same of one without items and one with a zero item: true")
	}
}

func TestSameOfAny(t *testing.T) { // P8.4
	all := parts()
	r := rand.New(rand.NewSource(8))
	for range 20000 {
		a, b := all[r.Intn(len(all))], all[r.Intn(len(all))]
		// Two picked by chance are seldom alike: some fields of the one are given to the other.
		if r.Intn(4) > 0 {
			b.From, b.Seq = a.From, a.Seq
		}
		if r.Intn(4) > 0 {
			b.Pair, b.More = a.Pair, a.More
		}
		if r.Intn(4) > 0 {
			b.Items = slices.Clone(a.Items)
		}
		if got := part.Same(a, b); got != like(a, b) {
			t.Fatalf("Same(%v, %v): %t", a, b, got)
		}
	}
}

func TestArgumentsStay(t *testing.T) { // R3
	for many := range 9 {
		held := append(some(many), told(9, 1, 9, 2), told(9, 2, 9, 2))
		want := slices.Clone(held)
		p := piece(held[:many]...)
		part.Right(p)
		part.Bytes(p)
		part.Same(p, piece(some(many)...))
		if !slices.Equal(held, want) || !like(p, piece(want[:many]...)) {
			t.Errorf("a part with %d items was changed: %v, want %v", many, held, want)
		}
	}
}

func TestReadAnswersNewMemory(t *testing.T) { // P8.3, R3
	for many := range 7 {
		want := piece(some(many)...)
		s := written(want)
		first, _ := part.Read(s)
		second, _ := part.Read(s)
		a, b := append(second.Items, told(1, 0, 0, -1)), append(second.Items, told(2, 0, 0, -1))
		if a[many].Dest != 1 || b[many].Dest != 2 {
			t.Errorf("two items put behind the same %d: %v, %v", many, a, b)
		}
		clear(first.Items)
		if !like(second, want) {
			t.Errorf("Read(%q): %v, want %v", s, second, want)
		}
	}
}

func TestWrittenIsRead(t *testing.T) { // P8.5
	for _, p := range parts() {
		if !right(p) {
			continue
		}
		s, err := part.Bytes(p)
		if len(s) != 20+6*len(p.Items) || err != api.OK {
			t.Fatalf("Bytes(%v): %q, %d", p, s, err)
		}
		if got, err := part.Read(s); !part.Same(got, p) || !like(got, p) || err != api.OK {
			t.Fatalf("Read(Bytes(%v)): %v, %d", p, got, err)
		}
	}
}

// readIsWritten looks whether s is written so again, where it is read, and is told to be wrong by the chapter's words, where it is not.
func readIsWritten(t *testing.T, s string) {
	t.Helper()
	p, err := part.Read(s)
	if err == api.OK {
		if again, err := part.Bytes(p); again != s || err != api.OK || !part.Right(p) {
			t.Fatalf("Bytes(Read(%q)): %q, %d", s, again, err)
		}
		return
	}
	var want api.Errno
	switch {
	case len(s) < 20:
		want = api.ErrShort
	case len(s) > 60:
		want = api.ErrLong
	default:
		_, want = item.Unall(s[20:])
		if want == api.OK && (s[19] > 1 || s[0] > 15) {
			want = api.ErrForm
		}
	}
	if !blank(p) || err != want {
		t.Fatalf("Read(%q): %v, %d, want %d", s, p, err, want)
	}
}

func TestReadIsWritten(t *testing.T) { // P8.5
	r := rand.New(rand.NewSource(88))
	for range 50000 {
		p := piece(some(r.Intn(7))...)
		p.From, p.Seq, p.Pair, p.More = r.Intn(16), r.Intn(65536), pairs[r.Intn(len(pairs))], r.Intn(2) == 0
		b := []byte(written(p))
		for range r.Intn(3) {
			b[r.Intn(len(b))] = byte(r.Intn(256))
		}
		if r.Intn(4) == 0 {
			b = b[:r.Intn(len(b))]
		}
		for range r.Intn(8) / 2 {
			b = append(b, byte(r.Intn(256)))
		}
		readIsWritten(t, string(b))
	}
}

func FuzzPart(f *testing.F) {
	for _, s := range []string{"", front[:19], front, front + self, front + strings.Repeat(self, 6), front + strings.Repeat(self, 7), "\x10" + front[1:], front[:19] + "\x02"} {
		f.Add(s, 3, 513, 7, 2, uint32(5), 1)
	}
	f.Add("", 15, 65535, 3, 0, uint32(0), -1)
	f.Add("", -1, 65536, 16, 3, uint32(top), 16)
	f.Fuzz(func(t *testing.T, s string, from, seq, dest, kind int, dist uint32, pred int) {
		readIsWritten(t, s)
		p := api.Part{From: from, Seq: seq, More: seq%2 == 0, Items: []api.Item{told(3, 0, 0, -1), told(dest, kind, dist, pred)}}
		if part.Right(p) != right(p) {
			t.Fatalf("Right(%v): %t", p, part.Right(p))
		}
		text, err := part.Bytes(p)
		if (err == api.OK) != right(p) || err == api.OK && text != written(p) {
			t.Fatalf("Bytes(%v): %q, %d", p, text, err)
		}
		if err == api.OK {
			readIsWritten(t, text)
		}
	})
}
