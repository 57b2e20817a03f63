package frame_test

import (
	"encoding/binary"
	"fmt"
	"hash/adler32"
	"math"
	"math/rand"
	"slices"
	"strings"
	"testing"

	"fingerpost/acks"
	"fingerpost/api"
	"fingerpost/frame"
	"fingerpost/hello"
	"fingerpost/parcel"
	"fingerpost/part"
)

const (
	top = math.MaxUint32
	// front is node 3, and the pair 2.1-9.8, with which the bodies of all kinds begin.
	front = "\x03\x00\x00\x00\x02\x00\x00\x00\x01\x00\x00\x00\x09\x00\x00\x00\x08"
)

// numbers are nodes, kinds, and numbers that are none, some of which have one in their lowest byte.
var numbers = []int{0, 1, 2, 3, 4, 5, 14, 15, 16, 17, 255, 256, 257, 260, -1, -2, -16, -252, -255, 1<<32 + 3, math.MinInt, math.MinInt + 1, math.MinInt + 4, math.MaxInt}

// wrongKinds are those of numbers that are no kinds.
var wrongKinds = slices.DeleteFunc(slices.Clone(numbers), isKind)

// pairs are those at which numbers, and ends without a session, are told apart.
var pairs = []api.Pair{
	{},
	of(2, 1, 9, 8),
	of(0, 0, 1, 0),
	of(0, 1, 0, 0),
	of(top, top, top, top),
	of(0x01020304, 0x05060708, 0x090a0b0c, 0x0d0e0f10),
	of(1<<31, 255, 256, 65536),
}

// of is a pair of its four numbers.
func of(boot, local, theirBoot, theirLocal uint32) api.Pair {
	return api.Pair{Mine: api.Epoch{Boot: boot, Local: local}, Theirs: api.Epoch{Boot: theirBoot, Local: theirLocal}}
}

// told is an item of its four numbers.
func told(dest, kind int, dist uint32, pred int) api.Item {
	return api.Item{Dest: dest, Kind: kind, Dist: dist, Pred: pred}
}

// isKind tells by the chapter's words whether n is a kind.
func isKind(n int) bool {
	return n >= 1 && n <= 4
}

// sealed is s with its sum behind it, as the library sums it.
func sealed(s string) string {
	return string(binary.BigEndian.AppendUint32([]byte(s), adler32.Checksum([]byte(s))))
}

// written is a frame by the chapter's words.
func written(kind int, body string) string {
	return sealed("F" + string([]byte{byte(kind)}) + body)
}

// text is n bytes that are of all kinds.
func text(n int) string {
	b := make([]byte, n)
	for i := range b {
		b[i] = byte(i*i + 7*i + n)
	}
	return string(b)
}

// fault tells by the chapter's words, in their order, what is wrong with s as a frame.
func fault(s string) api.Errno {
	switch {
	case len(s) > 256:
		return api.ErrLong
	case len(s) < 4:
		return api.ErrShort
	case sealed(s[:len(s)-4]) != s:
		return api.ErrSum
	case len(s) < 6:
		return api.ErrShort
	case s[0] != 0x46, s[1] < 1, s[1] > 4:
		return api.ErrForm
	}
	return api.OK
}

// hellos are some of each sender, right ones and others.
func hellos() []api.Hello {
	var l []api.Hello
	for _, from := range numbers {
		for _, pair := range pairs {
			l = append(l, api.Hello{From: from, Pair: pair})
		}
	}
	return l
}

// lists are items of parts: none, each that is told otherwise, as many as may be, one more, and wrong ones.
func lists() [][]api.Item {
	forms := []api.Item{
		told(0, 0, 0, -1), told(2, 1, 0, -1), told(15, 2, 0, -1),
		told(3, 0, top, -1), told(4, 1, top, -1), told(0, 2, top, -1),
		told(2, 0, 1, 0), told(2, 1, 9, 0), told(7, 2, 983040, 15),
	}
	l := [][]api.Item{nil, {}, forms[:6], forms[3:9], forms[:7], {{}}, {told(16, 0, 0, -1)}, {told(2, 3, 0, -1)}, {told(2, 0, 1, 2)}, {forms[0], told(1, 0, 983041, 2)}}
	for _, x := range forms {
		l = append(l, []api.Item{x})
	}
	return l
}

// parts are some of each sender, number, pair and list of items, right ones and others.
func parts() []api.Part {
	var l []api.Part
	for _, from := range numbers {
		for _, seq := range []int{0, 7, 513, 65000, 65535, 65536, -1, math.MinInt, math.MaxInt} {
			for _, items := range lists() {
				l = append(l, api.Part{From: from, Pair: pairs[len(l)%len(pairs)], Seq: seq, More: len(l)%2 == 0, Items: items})
			}
		}
	}
	return l
}

// ackList is acks of each sender, next number and bits, right ones and others.
func ackList() []api.Ack {
	var l []api.Ack
	for _, from := range numbers {
		for _, next := range []int{0, 9, 513, 65000, 65535, 65536, -1, math.MinInt, math.MaxInt} {
			for _, bits := range []int{0, 1, 4, 128, 255, 256, -1, math.MinInt} {
				l = append(l, api.Ack{From: from, Pair: pairs[len(l)%len(pairs)], Next: next, Bits: bits})
			}
		}
	}
	return l
}

// parcels are some of each sender, end, hops and body, right ones and others.
func parcels() []api.Parcel {
	var l []api.Parcel
	for _, from := range numbers {
		for i, src := range numbers {
			for _, ttl := range []int{1, 7, 64, 0, 65, -1, 257, math.MinInt} {
				for _, long := range []int{0, 1, 9, 10, 64, 65, 256} {
					l = append(l, api.Parcel{From: from, Pair: pairs[len(l)%len(pairs)], Src: src, Dst: numbers[(i*i+len(l)/5)%len(numbers)], Ttl: ttl, Body: text(long)})
				}
			}
		}
	}
	return l
}

// opening is a frame's front in words, by the chapter's words.
func opening(kind string, from int, p api.Pair) string {
	return fmt.Sprintf("%s %c %d.%d-%d.%d", kind, 'a'+from, p.Mine.Boot, p.Mine.Local, p.Theirs.Boot, p.Theirs.Local)
}

// partShown is p, which is right, in words, by the chapter's words.
func partShown(p api.Part) string {
	s := opening("part", p.From, p.Pair) + fmt.Sprintf(" #%d", p.Seq)
	if p.More {
		s += "+"
	}
	for _, x := range p.Items {
		s += fmt.Sprintf(" %c", 'a'+x.Dest) + []string{"", "?", "!"}[x.Kind]
		switch {
		case x.Dist == top:
			s += "far"
		case x.Pred == -1:
			s += fmt.Sprintf("%d.", x.Dist)
		default:
			s += fmt.Sprintf("%d%c", x.Dist, 'a'+x.Pred)
		}
	}
	return s
}

// ackShown is a, which is right, in words, by the chapter's words.
func ackShown(a api.Ack) string {
	return opening("ack", a.From, a.Pair) + fmt.Sprintf(" #%d %d", a.Next, a.Bits)
}

// parcelShown is p, which is right, in words, by the chapter's words.
func parcelShown(p api.Parcel) string {
	return opening("parcel", p.From, p.Pair) + fmt.Sprintf(" %c%c %d %d", 'a'+p.Src, 'a'+p.Dst, p.Ttl, len(p.Body))
}

func TestWrap(t *testing.T) { // P11.1
	for _, c := range []struct {
		kind int
		body string
		want string
		err  api.Errno
	}{
		{1, "", "F\x01\x00\x8f\x00\x48", api.OK},
		{1, "x", "F\x01x\x01\x4f\x00\xc0", api.OK},
		{2, "", "\x46\x02\x00\x90\x00\x49", api.OK},
		{3, "ab", sealed("F\x03ab"), api.OK},
		{4, "\x00", sealed("\x46\x04\x00"), api.OK},
		// What is wrapped may be a frame.
		{4, sealed("F\x01"), sealed("F\x04" + sealed("F\x01")), api.OK},
		{1, text(249), sealed("F\x01" + text(249)), api.OK},
		{4, text(250), sealed("F\x04" + text(250)), api.OK},
		{1, text(251), "", api.ErrArg},
		{4, text(252), "", api.ErrArg},
		{2, text(256), "", api.ErrArg},
		{2, text(1 << 17), "", api.ErrArg},
		{0, "", "", api.ErrArg},
		{0, "x", "", api.ErrArg},
		{5, "x", "", api.ErrArg},
		{0, text(251), "", api.ErrArg},
	} {
		if got, err := frame.Wrap(c.kind, c.body); got != c.want || err != c.err {
			t.Errorf("Wrap(%d, %q): %q, %d, want %q, %d", c.kind, c.body, got, err, c.want, c.err)
		}
	}
	for _, kind := range wrongKinds {
		for _, long := range []int{0, 1, 250, 251} {
			if got, err := frame.Wrap(kind, text(long)); got != "" || err != api.ErrArg {
				t.Errorf("Wrap(%d, %d bytes): %q, %d", kind, long, got, err)
			}
		}
	}
}

func TestWrapOfEachLength(t *testing.T) { // P11.1, P11.6
	for kind := 1; kind <= 4; kind++ {
		for n := range 300 {
			body := text(n)
			want, wrong := "", api.ErrArg
			if n <= 250 {
				want, wrong = written(kind, body), api.OK
			}
			s, err := frame.Wrap(kind, body)
			if s != want || err != wrong {
				t.Fatalf("Wrap(%d, %d bytes): %q, %d, want %q, %d", kind, n, s, err, want, wrong)
			}
			if wrong != api.OK {
				continue
			}
			if len(s) != n+6 {
				t.Fatalf("Wrap(%d, %d bytes): %d bytes", kind, n, len(s))
			}
			if k, b, err := frame.Open(s); k != kind || b != body || err != api.OK {
				t.Fatalf("Open(Wrap(%d, %q)): %d, %q, %d", kind, body, k, b, err)
			}
		}
	}
}

func TestOpen(t *testing.T) { // P11.2
	for _, c := range []struct {
		s    string
		kind int
		body string
		err  api.Errno
	}{
		{"F\x01\x00\x8f\x00\x48", 1, "", api.OK},
		{"F\x01x\x01\x4f\x00\xc0", 1, "x", api.OK},
		{sealed("F\x04\x00\x00"), 4, "\x00\x00", api.OK},
		{sealed("F\x02" + text(250)), 2, text(250), api.OK},
		{sealed("F\x03" + sealed("F\x01")), 3, sealed("F\x01"), api.OK},
		// Too long counts more than a sum, and than all that is in it.
		{sealed("F\x01" + text(251)), 0, "", api.ErrLong},
		{text(257), 0, "", api.ErrLong},
		{sealed("G\x09" + text(251)), 0, "", api.ErrLong},
		{sealed("F\x01" + text(1<<17)), 0, "", api.ErrLong},
		{text(256), 0, "", api.ErrSum},
		// It has no sum.
		{"", 0, "", api.ErrShort},
		{"F", 0, "", api.ErrShort},
		{"F\x01", 0, "", api.ErrShort},
		{"abc", 0, "", api.ErrShort},
		// The sum does not fit.
		{"abcd", 0, "", api.ErrSum},
		{"\x00\x00\x00\x00", 0, "", api.ErrSum},
		{"F\x01\x00\x8f\x00\x49", 0, "", api.ErrSum},
		{"F\x01\x00\x48\x00\x8f", 0, "", api.ErrSum},
		{"F\x02\x00\x8f\x00\x48", 0, "", api.ErrSum},
		{"F\x01\x00\x8f\x00", 0, "", api.ErrSum},
		{"G\x09xxxx", 0, "", api.ErrSum},
		{sealed("F\x01") + "x", 0, "", api.ErrSum},
		{"x" + sealed("F\x01"), 0, "", api.ErrSum},
		// Fewer than two bytes were sealed, right ones or not.
		{sealed(""), 0, "", api.ErrShort},
		{sealed("F"), 0, "", api.ErrShort},
		{sealed("G"), 0, "", api.ErrShort},
		{sealed("\x00"), 0, "", api.ErrShort},
		{sealed("\x01"), 0, "", api.ErrShort},
		// The head is wrong.
		{sealed("G\x01"), 0, "", api.ErrForm},
		{sealed("f\x01x"), 0, "", api.ErrForm},
		{sealed("\x01F"), 0, "", api.ErrForm},
		{sealed("F\x00"), 0, "", api.ErrForm},
		{sealed("F\x05"), 0, "", api.ErrForm},
		{sealed("F\x09"), 0, "", api.ErrForm},
		{sealed("F1"), 0, "", api.ErrForm},
		{sealed("F\xff" + text(250)), 0, "", api.ErrForm},
		{sealed(text(252)), 0, "", api.ErrForm},
	} {
		if kind, body, err := frame.Open(c.s); kind != c.kind || body != c.body || err != c.err {
			t.Errorf("Open(%q): %d, %q, %d, want %d, %q, %d", c.s, kind, body, err, c.kind, c.body, c.err)
		}
	}
}

func TestOpenOfEachHead(t *testing.T) { // P11.2
	for head := range 1 << 16 {
		first, second := byte(head>>8), byte(head)
		s := sealed(string([]byte{first, second}) + "ab")
		kind, body, err := frame.Open(s)
		if first == 'F' && isKind(int(second)) {
			if kind != int(second) || body != "ab" || err != api.OK {
				t.Errorf("Open(%q): %d, %q, %d", s, kind, body, err)
			}
		} else if kind != 0 || body != "" || err != api.ErrForm {
			t.Errorf("Open(%q): %d, %q, %d", s, kind, body, err)
		}
	}
}

func TestOpenOfEachLength(t *testing.T) { // P11.2
	for n := range 400 {
		for _, s := range []string{strings.Repeat("F", n), sealed(("F\x02" + text(400))[:n])} {
			if _, _, err := frame.Open(s); err != fault(s) {
				t.Errorf("Open(%q): %d, want %d", s, err, fault(s))
			}
		}
	}
}

func TestShortestHasSixBytes(t *testing.T) { // P11.1, P11.2
	for kind := 1; kind <= 4; kind++ {
		s, err := frame.Wrap(kind, "")
		if len(s) != 6 || err != api.OK {
			t.Errorf("Wrap(%d, \"\"): %q, %d", kind, s, err)
		}
		for n := range 6 {
			if k, b, err := frame.Open(s[:n]); k != 0 || b != "" || err == api.OK {
				t.Errorf("Open(%q): %d, %q, %d", s[:n], k, b, err)
			}
		}
	}
}

// made looks whether a frame of a body, or of that body's error, was made by the chapter's words, and whether it is shown so.
func made(t *testing.T, what any, kind int, body string, wrong api.Errno, s string, err api.Errno, words func() string) {
	t.Helper()
	if wrong != api.OK {
		if s != "" || err != wrong {
			t.Fatalf("frame of %v: %q, %d, want %d", what, s, err, wrong)
		}
		return
	}
	if s != written(kind, body) || err != api.OK {
		t.Fatalf("frame of %v: %q, %d, want %q", what, s, err, written(kind, body))
	}
	if k, b, err := frame.Open(s); k != kind || b != body || err != api.OK {
		t.Fatalf("Open of %v: %d, %q, %d", what, k, b, err)
	}
	if got, err := frame.Show(s); got != words() || err != api.OK {
		t.Fatalf("Show of %v: %q, %d, want %q", what, got, err, words())
	}
}

func TestHello(t *testing.T) { // P11.3, P11.5, P11.7
	s, err := frame.Hello(api.Hello{From: 3, Pair: of(2, 1, 9, 8)})
	if s != sealed("F\x01"+front) || err != api.OK {
		t.Errorf("Hello: %q, %d", s, err)
	}
	if s, err := frame.Hello(api.Hello{From: 3}); s != "" || err != api.ErrArg {
		t.Errorf("Hello of no epoch: %q, %d", s, err)
	}
	for _, h := range hellos() {
		body, wrong := hello.Bytes(h)
		s, err := frame.Hello(h)
		made(t, h, 1, body, wrong, s, err, func() string { return opening("hello", h.From, h.Pair) })
	}
}

func TestPart(t *testing.T) { // P11.3, P11.5, P11.7
	s, err := frame.Part(api.Part{From: 3, Pair: of(2, 1, 9, 8), Seq: 513, More: true, Items: []api.Item{told(3, 0, 0, -1)}})
	if s != sealed("F\x02"+front+"\x02\x01\x01\x30\x00\x00\x00\x00\xff") || err != api.OK {
		t.Errorf("Part: %q, %d", s, err)
	}
	if s, err := frame.Part(api.Part{Seq: -1}); s != "" || err != api.ErrArg {
		t.Errorf("Part of a wrong number: %q, %d", s, err)
	}
	for _, p := range parts() {
		body, wrong := part.Bytes(p)
		s, err := frame.Part(p)
		made(t, p, 2, body, wrong, s, err, func() string { return partShown(p) })
	}
}

func TestAck(t *testing.T) { // P11.3, P11.5, P11.7
	s, err := frame.Ack(api.Ack{From: 3, Pair: of(2, 1, 9, 8), Next: 513, Bits: 4})
	if s != sealed("F\x03"+front+"\x02\x01\x04") || err != api.OK {
		t.Errorf("Ack: %q, %d", s, err)
	}
	if s, err := frame.Ack(api.Ack{From: -1}); s != "" || err != api.ErrArg {
		t.Errorf("Ack of no node: %q, %d", s, err)
	}
	for _, a := range ackList() {
		body, wrong := acks.Bytes(a)
		s, err := frame.Ack(a)
		made(t, a, 3, body, wrong, s, err, func() string { return ackShown(a) })
	}
}

func TestParcel(t *testing.T) { // P11.3, P11.5, P11.7
	s, err := frame.Parcel(api.Parcel{From: 3, Pair: of(2, 1, 9, 8), Src: 10, Dst: 5, Ttl: 7, Body: "ab"})
	if s != sealed("F\x04"+front+"\xa5\x07\x02ab") || err != api.OK {
		t.Errorf("Parcel: %q, %d", s, err)
	}
	if s, err := frame.Parcel(api.Parcel{Ttl: 65}); s != "" || err != api.ErrArg {
		t.Errorf("Parcel of too many hops: %q, %d", s, err)
	}
	for _, p := range parcels() {
		body, wrong := parcel.Bytes(p)
		s, err := frame.Parcel(p)
		made(t, p, 4, body, wrong, s, err, func() string { return parcelShown(p) })
	}
}

func TestKind(t *testing.T) { // P11.4
	for kind, want := range map[int]string{1: "hello", 2: "part", 3: "ack", 4: "parcel"} {
		if got := frame.Kind(kind); got != want {
			t.Errorf("Kind(%d): %q, want %q", kind, got, want)
		}
	}
	for _, n := range wrongKinds {
		if got := frame.Kind(n); got != "" {
			t.Errorf("Kind(%d): %q", n, got)
		}
	}
}

func TestShow(t *testing.T) { // P11.5
	item := func(s string) string { return sealed("F\x02" + front + "\x02\x01\x00" + s) }
	for _, c := range []struct {
		s    string
		want string
	}{
		{sealed("F\x01" + front), "hello d 2.1-9.8"},
		{sealed("F\x01\x0f" + strings.Repeat("\xff", 16)), "hello p 4294967295.4294967295-4294967295.4294967295"},
		{sealed("F\x01\x00\x00\x00\x00\x01" + strings.Repeat("\x00", 12)), "hello a 1.0-0.0"},
		{sealed("F\x02" + front + "\x00\x00\x00"), "part d 2.1-9.8 #0"},
		{sealed("F\x02" + front + "\xff\xff\x01"), "part d 2.1-9.8 #65535+"},
		{sealed("F\x02" + strings.Repeat("\x00", 20)), "part a 0.0-0.0 #0"},
		{item("\x00\x00\x00\x00\x00\xff"), "part d 2.1-9.8 #513 a0."},
		{item("\x21\x00\x00\x00\x00\xff"), "part d 2.1-9.8 #513 c?0."},
		{item("\x22\x00\x00\x00\x00\xff"), "part d 2.1-9.8 #513 c!0."},
		{item("\x30\xff\xff\xff\xff\xff"), "part d 2.1-9.8 #513 dfar"},
		{item("\x31\xff\xff\xff\xff\xff"), "part d 2.1-9.8 #513 d?far"},
		{item("\x32\xff\xff\xff\xff\xff"), "part d 2.1-9.8 #513 d!far"},
		{item("\xf0\x00\x00\x00\x09\x00"), "part d 2.1-9.8 #513 p9a"},
		{item("\xf1\x00\x01\x00\x00\x0e"), "part d 2.1-9.8 #513 p?65536o"},
		{item("\x02\x00\x0f\x00\x00\x0f"), "part d 2.1-9.8 #513 a!983040p"},
		// Items stay in their order, and one may come twice.
		{item("\xf0\x00\x00\x00\x09\x00" + "\x30\xff\xff\xff\xff\xff" + "\xf0\x00\x00\x00\x09\x00"), "part d 2.1-9.8 #513 p9a dfar p9a"},
		{sealed("F\x03" + front + "\x00\x00\x00"), "ack d 2.1-9.8 #0 0"},
		{sealed("F\x03" + front + "\xff\xff\xff"), "ack d 2.1-9.8 #65535 255"},
		{sealed("F\x03" + front + "\x02\x01\x04"), "ack d 2.1-9.8 #513 4"},
		{sealed("F\x04" + front + "\xa5\x07\x00"), "parcel d 2.1-9.8 kf 7 0"},
		{sealed("F\x04" + front + "\xa5\x07\x02ab"), "parcel d 2.1-9.8 kf 7 2"},
		// Its ends stay in their order, and may be one.
		{sealed("F\x04" + front + "\x5a\x01\x02ab"), "parcel d 2.1-9.8 fk 1 2"},
		{sealed("F\x04" + front + "\x00\x40\x40" + text(64)), "parcel d 2.1-9.8 aa 64 64"},
	} {
		if got, err := frame.Show(c.s); got != c.want || err != api.OK {
			t.Errorf("Show(%q): %q, %d, want %q", c.s, got, err, c.want)
		}
	}
}

func TestShowOfWrong(t *testing.T) { // P11.5
	for _, c := range []struct {
		s   string
		err api.Errno
	}{
		// Open's errors.
		{"", api.ErrShort},
		{"abc", api.ErrShort},
		{sealed("F"), api.ErrShort},
		{"F\x01" + front + "\x00\x00\x00\x00", api.ErrSum},
		{"F\x01" + front, api.ErrSum},
		{sealed("F\x01" + text(251)), api.ErrLong},
		{sealed("F\x00" + front), api.ErrForm},
		{sealed("F\x05" + front), api.ErrForm},
		{sealed("G\x01" + front), api.ErrForm},
		// The rest is nothing of its kind, whatever the kind says is wrong with it.
		{sealed("F\x01"), api.ErrForm},
		{sealed("F\x01x"), api.ErrForm},
		{sealed("F\x01" + front[:16]), api.ErrForm},
		{sealed("F\x01" + front + "x"), api.ErrForm},
		{sealed("F\x01\x10" + front[1:]), api.ErrForm},
		{sealed("F\x01" + strings.Repeat("\x00", 17)), api.ErrForm},
		{sealed("F\x02"), api.ErrForm},
		{sealed("F\x02" + front), api.ErrForm},
		{sealed("F\x02" + front + "\x00\x00"), api.ErrForm},
		{sealed("F\x02" + front + "\x00\x00\x02"), api.ErrForm},
		{sealed("F\x02" + front + "\x00\x00\x00\x30"), api.ErrForm},
		{sealed("F\x02" + front + "\x00\x00\x00\x33\x00\x00\x00\x00\xff"), api.ErrForm},
		{sealed("F\x02\x10" + front[1:] + "\x00\x00\x00"), api.ErrForm},
		{sealed("F\x02" + front + "\x00\x00\x00" + strings.Repeat("\x30\x00\x00\x00\x00\xff", 7)), api.ErrForm},
		{sealed("F\x03"), api.ErrForm},
		{sealed("F\x03" + front + "\x00\x00"), api.ErrForm},
		{sealed("F\x03" + front + "\x00\x00\x00\x00"), api.ErrForm},
		{sealed("F\x03\x10" + front[1:] + "\x00\x00\x00"), api.ErrForm},
		{sealed("F\x04"), api.ErrForm},
		{sealed("F\x04" + front + "\xa5\x07"), api.ErrForm},
		{sealed("F\x04" + front + "\xa5\x07\x02a"), api.ErrForm},
		{sealed("F\x04" + front + "\xa5\x07\x02abc"), api.ErrForm},
		{sealed("F\x04" + front + "\xa5\x00\x00"), api.ErrForm},
		{sealed("F\x04" + front + "\xa5\x41\x00"), api.ErrForm},
		{sealed("F\x04" + front + "\xa5\x07\x41" + text(65)), api.ErrForm},
		{sealed("F\x04" + text(250)), api.ErrForm},
	} {
		if got, err := frame.Show(c.s); got != "" || err != c.err {
			t.Errorf("Show(%q): %q, %d, want %d", c.s, got, err, c.err)
		}
	}
}

// shownIsRead looks whether s is shown by the chapter's words, and told to be wrong by them where it is.
func shownIsRead(t *testing.T, s string) {
	t.Helper()
	kind, body, err := frame.Open(s)
	if want := fault(s); err != want {
		t.Fatalf("Open(%q): %d, %q, %d, want %d", s, kind, body, err, want)
	}
	if err != api.OK && (kind != 0 || body != "") {
		t.Fatalf("Open(%q): %d, %q, %d", s, kind, body, err)
	}
	want := ""
	if err == api.OK {
		if again, err := frame.Wrap(kind, body); again != s || err != api.OK {
			t.Fatalf("Wrap(Open(%q)): %q, %d", s, again, err)
		}
		want, err = shown(kind, body)
	}
	if got, wrong := frame.Show(s); got != want || wrong != err {
		t.Fatalf("Show(%q): %q, %d, want %q, %d", s, got, wrong, want, err)
	}
}

// shown is a body in words, or ErrForm, by the chapter's words.
func shown(kind int, body string) (string, api.Errno) {
	switch kind {
	case 1:
		if h, err := hello.Read(body); err == api.OK {
			return opening("hello", h.From, h.Pair), api.OK
		}
	case 2:
		if p, err := part.Read(body); err == api.OK {
			return partShown(p), api.OK
		}
	case 3:
		if a, err := acks.Read(body); err == api.OK {
			return ackShown(a), api.OK
		}
	case 4:
		if p, err := parcel.Read(body); err == api.OK {
			return parcelShown(p), api.OK
		}
	}
	return "", api.ErrForm
}

func TestShowOfEachLength(t *testing.T) { // P11.5
	for kind := range 6 {
		for n := range 120 {
			for _, body := range []string{(front + text(200))[:n], (front + strings.Repeat("\x01", 200))[:n], strings.Repeat("\x00", n), (front + "\x00\x00\x00" + strings.Repeat("\x30\x00\x00\x00\x00\xff", 20))[:n]} {
				shownIsRead(t, written(kind, body))
			}
		}
	}
}

func TestShowOfOthersBodies(t *testing.T) { // P11.5
	r := rand.New(rand.NewSource(11))
	bodies := []string{front, front + "\x02\x01\x01\x30\x00\x00\x00\x00\xff", front + "\x02\x01\x04", front + "\xa5\x07\x02ab", front + "\x00\x01\x00"}
	for range 50000 {
		b := []byte(bodies[r.Intn(len(bodies))])
		for range r.Intn(3) {
			b[r.Intn(len(b))] = byte(r.Intn(256))
		}
		if r.Intn(4) == 0 {
			b = b[:r.Intn(len(b))]
		}
		shownIsRead(t, written(r.Intn(6), string(b)))
	}
}

// frames are a frame of each kind, the shortest one, and the longest one.
func frames() []string {
	l := []string{written(1, ""), written(4, text(250)), written(2, strings.Repeat("\x00", 250)), written(3, strings.Repeat("\xff", 250))}
	for kind, body := range []string{front, front + "\x02\x01\x01\x30\x00\x00\x00\x00\xff", front + "\x02\x01\x04", front + "\xa5\x07\x02ab"} {
		l = append(l, written(kind+1, body))
	}
	return l
}

func TestOtherByteIsNotOpened(t *testing.T) { // P11.6
	for _, s := range frames() {
		if _, _, err := frame.Open(s); err != api.OK {
			t.Errorf("Open(%q): %d", s, err)
		}
		for at := range len(s) {
			for other := range 256 {
				b := []byte(s)
				if b[at] = byte(other); string(b) == s {
					continue
				}
				if kind, body, err := frame.Open(string(b)); kind != 0 || body != "" || err != api.ErrSum {
					t.Fatalf("Open(%q) with %d at %d: %d, %q, %d", s, other, at, kind, body, err)
				}
				if words, err := frame.Show(string(b)); words != "" || err != api.ErrSum {
					t.Fatalf("Show(%q) with %d at %d: %q, %d", s, other, at, words, err)
				}
			}
		}
	}
}

func TestArgumentsStay(t *testing.T) { // R3
	for _, items := range lists() {
		room := append(slices.Clone(items), told(9, 1, 5, 3))
		want := slices.Clone(room)
		s, _ := frame.Part(api.Part{From: 1, Seq: 5, Items: room[:len(items)]})
		frame.Show(s)
		if !slices.Equal(room, want) {
			t.Errorf("Part of %v changed its items, or the room behind them: %v", want, room)
		}
	}
}

func TestAgain(t *testing.T) { // R4
	for _, s := range frames() {
		first, wrong := frame.Show(s)
		for range 5 {
			if got, err := frame.Show(s); got != first || err != wrong {
				t.Errorf("Show(%q): %q, %d, and %q, %d", s, first, wrong, got, err)
			}
		}
	}
}

// FuzzFrame holds what the calls say of any texts and numbers against each other (R1, R2, P11.1 to P11.7).
func FuzzFrame(f *testing.F) {
	for _, s := range append(frames(), "", "abc", sealed(""), sealed("F"), sealed("G\x01"), sealed("F\x05")) {
		f.Add(s, 1, 0, 1)
	}
	f.Add(text(64), 4, 70, 255)
	f.Add(text(251), 5, -1, 256)
	f.Add(front, 2, 3, -7)
	f.Fuzz(func(t *testing.T, s string, kind, at, other int) {
		shownIsRead(t, s)
		shownIsRead(t, sealed(s))
		shownIsRead(t, written(kind, s))
		made, err := frame.Wrap(kind, s)
		if want := isKind(kind) && len(s) <= 250; (err == api.OK) != want || want && made != written(kind, s) || !want && (made != "" || err != api.ErrArg) {
			t.Fatalf("Wrap(%d, %q): %q, %d", kind, s, made, err)
		}
		if at < 0 || at >= len(made) || made[at] == byte(other) {
			return
		}
		b := []byte(made)
		b[at] = byte(other)
		if _, _, err := frame.Open(string(b)); err == api.OK {
			t.Fatalf("Open(%q): what was another byte at %d is opened", b, at)
		}
	})
}
