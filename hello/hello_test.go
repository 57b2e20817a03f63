package hello_test

import (
	"encoding/binary"
	"math"
	"math/rand"
	"strings"
	"testing"

	"fingerpost/api"
	"fingerpost/hello"
)

const top = math.MaxUint32

// none is the epoch of no session.
var none api.Epoch

// numbers are those at which signs and bytes begin or end.
var numbers = []uint32{0, 1, 2, 255, 256, 65536, 0x01020304, 1<<31 - 1, 1 << 31, top - 1, top}

// senders are nodes, and numbers that are none, some of which have a node in their lowest byte.
var senders = []int{0, 1, 2, 7, 14, 15, 16, 17, 255, 256, 259, -1, -2, -16, -253, 1<<32 + 3, math.MinInt, math.MinInt + 5, math.MaxInt}

// of is an epoch of two numbers.
func of(boot, local uint32) api.Epoch {
	return api.Epoch{Boot: boot, Local: local}
}

// says is a hello of a node and two epochs.
func says(from int, mine, theirs api.Epoch) api.Hello {
	return api.Hello{From: from, Pair: api.Pair{Mine: mine, Theirs: theirs}}
}

// epochs are all of the numbers.
func epochs() []api.Epoch {
	var l []api.Epoch
	for _, boot := range numbers {
		for _, local := range numbers {
			l = append(l, of(boot, local))
		}
	}
	return l
}

// hellos are some of each sender, right ones and others.
func hellos() []api.Hello {
	var l []api.Hello
	all := epochs()
	r := rand.New(rand.NewSource(6))
	for _, from := range senders {
		l = append(l, says(from, none, none), says(from, of(1, 0), none), says(from, none, of(1, 0)))
		for _, e := range all {
			l = append(l, says(from, e, all[r.Intn(len(all))]), says(from, e, none))
		}
		for range 50 {
			l = append(l, says(from, of(r.Uint32(), r.Uint32()), of(r.Uint32(), r.Uint32())))
		}
	}
	return l
}

// right tells by the chapter's words whether h is right.
func right(h api.Hello) bool {
	return h.From >= 0 && h.From < 16 && (h.Pair.Mine.Boot != 0 || h.Pair.Mine.Local != 0)
}

// written is h in bytes, the highest byte of each number first.
func written(h api.Hello) string {
	b := []byte{byte(h.From)}
	for _, n := range []uint32{h.Pair.Mine.Boot, h.Pair.Mine.Local, h.Pair.Theirs.Boot, h.Pair.Theirs.Local} {
		b = binary.BigEndian.AppendUint32(b, n)
	}
	return string(b)
}

func TestRight(t *testing.T) { // P6.1
	for _, c := range []struct {
		h    api.Hello
		want bool
	}{
		{api.Hello{}, false},
		{says(0, of(1, 0), none), true},
		{says(0, of(0, 1), none), true},
		{says(15, of(top, top), of(top, top)), true},
		{says(3, of(2, 1), of(2, 1)), true},
		{says(3, none, of(2, 1)), false},
		{says(3, none, none), false},
		{says(16, of(1, 0), none), false},
		{says(-1, of(1, 0), none), false},
		{says(256, of(1, 0), none), false},
		{says(math.MinInt, of(1, 0), none), false},
		{says(math.MaxInt, of(1, 0), none), false},
		{says(-1, none, none), false},
	} {
		if got := hello.Right(c.h); got != c.want {
			t.Errorf("Right(%v): %t", c.h, got)
		}
	}
	for _, h := range hellos() {
		if got := hello.Right(h); got != right(h) {
			t.Errorf("Right(%v): %t", h, got)
		}
	}
}

func TestBytes(t *testing.T) { // P6.2
	for _, c := range []struct {
		h    api.Hello
		want string
		err  api.Errno
	}{
		{says(3, of(2, 1), none), "\x03\x00\x00\x00\x02\x00\x00\x00\x01\x00\x00\x00\x00\x00\x00\x00\x00", api.OK},
		{says(0, of(0, 1), of(0x01020304, 0x05060708)), "\x00\x00\x00\x00\x00\x00\x00\x00\x01\x01\x02\x03\x04\x05\x06\x07\x08", api.OK},
		{says(15, of(top, top), of(top, top)), "\x0f" + strings.Repeat("\xff", 16), api.OK},
		{says(16, of(2, 1), none), "", api.ErrArg},
		{says(259, of(2, 1), none), "", api.ErrArg},
		{says(-1, of(2, 1), none), "", api.ErrArg},
		{says(-253, of(2, 1), none), "", api.ErrArg},
		{says(3, none, of(2, 1)), "", api.ErrArg},
		{api.Hello{}, "", api.ErrArg},
	} {
		if got, err := hello.Bytes(c.h); got != c.want || err != c.err {
			t.Errorf("Bytes(%v): %q, %d, want %q, %d", c.h, got, err, c.want, c.err)
		}
	}
	for _, h := range hellos() {
		want, wrong := "", api.ErrArg
		if right(h) {
			want, wrong = written(h), api.OK
		}
		if got, err := hello.Bytes(h); got != want || err != wrong {
			t.Errorf("Bytes(%v): %q, %d, want %q, %d", h, got, err, want, wrong)
		}
	}
}

func TestRead(t *testing.T) { // P6.3
	zeros := strings.Repeat("\x00", 8)
	ones := strings.Repeat("\xff", 8)
	for _, c := range []struct {
		s    string
		want api.Hello
		err  api.Errno
	}{
		{"", api.Hello{}, api.ErrShort},
		{"\x03", api.Hello{}, api.ErrShort},
		{"\x03" + ones + ones[1:], api.Hello{}, api.ErrShort},
		{"\xff" + ones + ones[1:], api.Hello{}, api.ErrShort},
		{"\x03" + zeros + zeros[1:], api.Hello{}, api.ErrShort},
		{"\x03" + ones + zeros, says(3, of(top, top), none), api.OK},
		{"\x0f" + ones + ones, says(15, of(top, top), of(top, top)), api.OK},
		{"\x00\x00\x00\x00\x01" + zeros[4:] + zeros, says(0, of(1, 0), none), api.OK},
		{"\x00" + zeros[4:] + "\x80" + zeros[5:] + zeros, says(0, of(0, 1<<31), none), api.OK},
		{"\x03" + zeros + ones, api.Hello{}, api.ErrForm},
		{"\x00" + zeros + zeros, api.Hello{}, api.ErrForm},
		{"\x10" + ones + zeros, api.Hello{}, api.ErrForm},
		{"\x80" + ones + zeros, api.Hello{}, api.ErrForm},
		{"\xff" + ones + ones, api.Hello{}, api.ErrForm},
		{"\x03" + ones + zeros + "\x00", api.Hello{}, api.ErrForm},
		{"\x03" + ones + zeros + strings.Repeat("q", 300), api.Hello{}, api.ErrForm},
		{"\x10" + zeros + zeros + "x", api.Hello{}, api.ErrForm},
	} {
		if got, err := hello.Read(c.s); got != c.want || err != c.err {
			t.Errorf("Read(%q): %v, %d, want %v, %d", c.s, got, err, c.want, c.err)
		}
	}
}

func TestReadOfEachLength(t *testing.T) { // P6.3
	long := written(says(3, of(2, 1), of(9, 8))) + strings.Repeat("\x01", 30)
	for n := range len(long) + 1 {
		want := api.ErrForm
		switch {
		case n < 17:
			want = api.ErrShort
		case n == 17:
			want = api.OK
		}
		got, err := hello.Read(long[:n])
		if err != want || err != api.OK && got != (api.Hello{}) {
			t.Errorf("Read of %d bytes: %v, %d, want %d", n, got, err, want)
		}
	}
}

func TestReadOfEachSender(t *testing.T) { // P6.3
	for n := range 256 {
		s := string([]byte{byte(n)}) + written(says(0, of(2, 1), of(9, 8)))[1:]
		want, wrong := api.Hello{}, api.ErrForm
		if n < 16 {
			want, wrong = says(n, of(2, 1), of(9, 8)), api.OK
		}
		if got, err := hello.Read(s); got != want || err != wrong {
			t.Errorf("Read(%q): %v, %d, want %v, %d", s, got, err, want, wrong)
		}
	}
}

func TestKnows(t *testing.T) { // P6.4
	for _, c := range []struct {
		theirs, mine api.Epoch
		want         int
	}{
		{none, none, 0},
		{none, of(2, 0), 0},
		{none, of(0, 1), 0},
		{none, of(top, top), 0},
		{of(2, 3), of(2, 3), 3},
		{of(0, 1), of(0, 1), 3},
		{of(top, top), of(top, top), 3},
		{of(2, 3), of(2, 4), 1},
		{of(2, 3), of(3, 0), 1},
		{of(2, top), of(3, 0), 1},
		{of(1<<31-1, 0), of(1<<31, 0), 1},
		{of(2, 3), of(2, 2), 2},
		{of(2, 3), of(1, 9), 2},
		{of(2, 3), none, 2},
		{of(0, 1), none, 2},
		{of(0, 2), of(0, 1), 2},
		{of(1, 0), of(0, top), 2},
	} {
		for _, h := range []api.Hello{says(3, of(9, 0), c.theirs), says(3, c.mine, c.theirs), says(-1, none, c.theirs), says(16, of(1, 1), c.theirs)} {
			if got := hello.Knows(h, c.mine); got != c.want {
				t.Errorf("Knows(%v, %v): %d, want %d", h, c.mine, got, c.want)
			}
		}
	}
}

func TestKnowsOfAllEpochs(t *testing.T) { // P6.4
	place := func(e api.Epoch) uint64 { return uint64(e.Boot)<<32 | uint64(e.Local) }
	for _, theirs := range epochs() {
		for _, mine := range epochs() {
			want := 2
			switch {
			case place(theirs) == 0:
				want = 0
			case place(theirs) == place(mine):
				want = 3
			case place(theirs) < place(mine):
				want = 1
			}
			if got := hello.Knows(says(3, of(1, 1), theirs), mine); got != want {
				t.Fatalf("Knows of %v, %v: %d, want %d", theirs, mine, got, want)
			}
		}
	}
}

func TestAnswers(t *testing.T) { // P6.5
	for _, c := range []struct {
		what string
		a, b api.Hello
		want bool
	}{
		{"the second hello", says(1, of(2, 0), none), says(3, of(9, 0), of(2, 0)), true},
		{"the third hello", says(3, of(9, 0), of(2, 0)), says(1, of(2, 0), of(9, 0)), true},
		{"the other way round", says(3, of(9, 0), of(2, 0)), says(1, of(2, 0), none), false},
		{"one that knows nobody", says(1, of(2, 0), none), says(3, of(9, 0), none), false},
		{"one that knows an older one", says(1, of(2, 1), none), says(3, of(9, 0), of(2, 0)), false},
		{"one that knows a newer one", says(1, of(2, 0), none), says(3, of(9, 0), of(2, 1)), false},
		{"of another start", says(1, of(2, 0), none), says(3, of(9, 0), of(3, 0)), false},
		{"to one that knows an older one", says(1, of(2, 0), of(8, 0)), says(3, of(9, 0), of(2, 0)), false},
		{"to one that knows a newer one", says(1, of(2, 0), of(9, 1)), says(3, of(9, 0), of(2, 0)), false},
		{"to one that knows itself", says(1, of(2, 0), of(2, 0)), says(3, of(9, 0), of(2, 0)), false},
		{"of like epochs", says(1, of(2, 0), of(2, 0)), says(3, of(2, 0), of(2, 0)), true},
		{"of one node", says(1, of(2, 0), none), says(1, of(9, 0), of(2, 0)), false},
		{"of one node, of like epochs", says(1, of(2, 0), of(2, 0)), says(1, of(2, 0), of(2, 0)), false},
		{"to one without an epoch", says(1, none, none), says(3, of(9, 0), none), false},
		{"of one without an epoch", says(1, of(2, 0), none), says(3, none, of(2, 0)), false},
		{"of one without, to one that knows none", says(1, none, none), says(3, none, none), false},
		{"to no node", says(16, of(2, 0), none), says(3, of(9, 0), of(2, 0)), false},
		{"of no node", says(1, of(2, 0), none), says(-1, of(9, 0), of(2, 0)), false},
		{"of the first and the last", says(0, of(0, 1), none), says(15, of(top, top), of(0, 1)), true},
		{"of nobody", api.Hello{}, api.Hello{}, false},
	} {
		if got := hello.Answers(c.a, c.b); got != c.want {
			t.Errorf("%s: Answers(%v, %v): %t", c.what, c.a, c.b, got)
		}
	}
}

// few are hellos of few nodes and epochs, of which many answer one another.
func few() []api.Hello {
	var l []api.Hello
	some := []api.Epoch{none, of(0, 1), of(1, 0), of(1, 1), of(2, 0)}
	for _, from := range []int{-1, 0, 1, 15, 16} {
		for _, mine := range some {
			for _, theirs := range some {
				l = append(l, says(from, mine, theirs))
			}
		}
	}
	return l
}

func TestAnswersOfFew(t *testing.T) { // P6.5
	count := 0
	for _, a := range few() {
		for _, b := range few() {
			want := right(a) && right(b) && a.From != b.From && b.Pair.Theirs == a.Pair.Mine && (a.Pair.Theirs == none || a.Pair.Theirs == b.Pair.Mine)
			if got := hello.Answers(a, b); got != want {
				t.Fatalf("Answers(%v, %v): %t", a, b, got)
			}
			if want {
				count++
			}
		}
	}
	if count == 0 {
		t.Error("none answers another")
	}
}

func TestWhoAnswersKnows(t *testing.T) { // P6.7
	count := 0
	for _, a := range few() {
		for _, b := range few() {
			if !hello.Answers(a, b) {
				continue
			}
			count++
			if hello.Knows(b, a.Pair.Mine) != 3 {
				t.Fatalf("%v answers %v, and knows %d of it", b, a, hello.Knows(b, a.Pair.Mine))
			}
			if back := hello.Knows(a, b.Pair.Mine); back != 0 && back != 3 {
				t.Fatalf("%v answers %v, which knows another one of it: %d", b, a, back)
			}
		}
	}
	// Of three nodes, each with four epochs: each pair of unlike nodes and epochs, and there a that knows nobody or b, and b that knows a.
	if want := 6 * 4 * 4 * 2; count != want {
		t.Errorf("%d answer one another, want %d", count, want)
	}
}

func TestWrittenIsRead(t *testing.T) { // P6.6
	for _, h := range hellos() {
		s, err := hello.Bytes(h)
		if err != api.OK {
			continue
		}
		if len(s) != 17 {
			t.Errorf("Bytes(%v): %d bytes", h, len(s))
		}
		if got, err := hello.Read(s); got != h || err != api.OK {
			t.Errorf("Read(Bytes(%v)): %v, %d", h, got, err)
		}
	}
}

func TestReadIsWritten(t *testing.T) { // P6.6
	r := rand.New(rand.NewSource(66))
	for range 20000 {
		b := make([]byte, 16+r.Intn(3))
		for i := range b {
			b[i] = byte(r.Intn(256))
		}
		b[0] %= 20
		if r.Intn(4) == 0 {
			clear(b[1:9])
		}
		readIsWritten(t, string(b))
	}
}

// readIsWritten looks whether s is written so again, where it is read, and is wrong in the right way, where it is not.
func readIsWritten(t *testing.T, s string) {
	t.Helper()
	h, err := hello.Read(s)
	switch {
	case len(s) < 17:
		if h != (api.Hello{}) || err != api.ErrShort {
			t.Fatalf("Read(%q): %v, %d", s, h, err)
		}
	case err == api.OK:
		again, err := hello.Bytes(h)
		if again != s || err != api.OK {
			t.Fatalf("Bytes(Read(%q)): %q, %d", s, again, err)
		}
	default:
		if len(s) == 17 && s[0] < 16 && s[1:9] != strings.Repeat("\x00", 8) || h != (api.Hello{}) || err != api.ErrForm {
			t.Fatalf("Read(%q): %v, %d", s, h, err)
		}
	}
}

func FuzzHello(f *testing.F) {
	f.Add("", "", uint32(1), uint32(0))
	f.Add(written(says(3, of(2, 1), none)), written(says(1, of(9, 8), of(2, 1))), uint32(2), uint32(1))
	f.Add(written(says(15, of(top, top), of(1, 1))), "x", uint32(top), uint32(top))
	f.Fuzz(func(t *testing.T, s, other string, boot, local uint32) {
		readIsWritten(t, s)
		a, _ := hello.Read(s)
		b, _ := hello.Read(other)
		if n := hello.Knows(a, of(boot, local)); n < 0 || n > 3 {
			t.Fatalf("Knows(%v, %d, %d): %d", a, boot, local, n)
		}
		if hello.Answers(a, b) && hello.Knows(b, a.Pair.Mine) != 3 {
			t.Fatalf("%v answers %v without knowing it", b, a)
		}
	})
}
