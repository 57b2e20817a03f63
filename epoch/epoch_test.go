package epoch_test

import (
	"encoding/binary"
	"fmt"
	"math"
	"math/big"
	"math/rand"
	"regexp"
	"strings"
	"testing"

	"fingerpost/api"
	"fingerpost/epoch"
)

const top = math.MaxUint32

// numbers are those at which signs, bytes and digits begin or end.
var numbers = []uint32{0, 1, 2, 9, 10, 14, 255, 256, 65535, 65536, 0x01020304, 999999999, 1000000000, 1<<31 - 1, 1 << 31, top - 1, top}

// rests are what may follow a pair's bytes.
var rests = []string{"", "x", "\x00", "\xff\x80", strings.Repeat("\x01", 16), strings.Repeat("q", 300)}

// of is an epoch of two numbers.
func of(boot, local uint32) api.Epoch {
	return api.Epoch{Boot: boot, Local: local}
}

// pair is a pair of two epochs.
func pair(mine, theirs api.Epoch) api.Pair {
	return api.Pair{Mine: mine, Theirs: theirs}
}

// epochs are all of the numbers, and some of any.
func epochs() []api.Epoch {
	var l []api.Epoch
	for _, boot := range numbers {
		for _, local := range numbers {
			l = append(l, of(boot, local))
		}
	}
	r := rand.New(rand.NewSource(5))
	for range 100 {
		l = append(l, of(r.Uint32()>>r.Intn(32), r.Uint32()>>r.Intn(32)))
	}
	return l
}

// pairs are some of each epoch with others.
func pairs() []api.Pair {
	l := []api.Pair{{}}
	all := epochs()
	for i, e := range all {
		for _, step := range []int{0, 1, 7, 17, 101} {
			l = append(l, pair(e, all[(i+step)%len(all)]), pair(e, api.Epoch{}), pair(api.Epoch{}, e))
		}
	}
	return l
}

// place is where e stands among all epochs, as one number.
func place(e api.Epoch) *big.Int {
	n := new(big.Int).Mul(big.NewInt(int64(e.Boot)), big.NewInt(1<<32))
	return n.Add(n, big.NewInt(int64(e.Local)))
}

func TestNone(t *testing.T) { // P5.1
	if !epoch.None(api.Epoch{}) || epoch.None(of(0, 1)) || epoch.None(of(1, 0)) || epoch.None(of(1, 1)) {
		t.Errorf("None: %t, %t, %t, %t", epoch.None(api.Epoch{}), epoch.None(of(0, 1)), epoch.None(of(1, 0)), epoch.None(of(1, 1)))
	}
	for _, e := range epochs() {
		if got, want := epoch.None(e), e.Boot == 0 && e.Local == 0; got != want {
			t.Errorf("None(%v): %t", e, got)
		}
	}
}

func TestNewer(t *testing.T) { // P5.2
	for _, c := range []struct {
		a, b api.Epoch
		want bool
	}{
		{of(2, 0), of(1, 9), true},
		{of(1, 9), of(2, 0), false},
		{of(1, 1), of(1, 0), true},
		{of(1, 0), of(1, 1), false},
		{of(1, 1), of(1, 1), false},
		{of(0, 0), of(0, 0), false},
		{of(0, 1), of(0, 0), true},
		{of(top, top), of(top, top), false},
		{of(top, 0), of(top-1, top), true},
		{of(0, top), of(1, 0), false},
		{of(1<<31, 0), of(1<<31-1, 0), true},
		{of(3, 1<<31), of(3, 1), true},
		{of(3, top), of(3, 0), true},
		{of(3, 0), of(3, top), false},
	} {
		if got := epoch.Newer(c.a, c.b); got != c.want {
			t.Errorf("Newer(%v, %v): %t", c.a, c.b, got)
		}
	}
	all := epochs()
	for _, a := range all {
		for _, b := range all {
			if got, want := epoch.Newer(a, b), place(a).Cmp(place(b)) > 0; got != want {
				t.Fatalf("Newer(%v, %v): %t", a, b, got)
			}
		}
	}
}

func TestNext(t *testing.T) { // P5.3
	for _, c := range []struct {
		e, want api.Epoch
		err     api.Errno
	}{
		{of(0, 0), of(0, 1), api.OK},
		{of(3, 14), of(3, 15), api.OK},
		{of(3, 1<<31-1), of(3, 1<<31), api.OK},
		{of(3, top-1), of(3, top), api.OK},
		{of(top, 0), of(top, 1), api.OK},
		{of(top, top-1), of(top, top), api.OK},
		{of(3, top), of(0, 0), api.ErrWrap},
		{of(0, top), of(0, 0), api.ErrWrap},
		{of(top, top), of(0, 0), api.ErrWrap},
	} {
		if got, err := epoch.Next(c.e); got != c.want || err != c.err {
			t.Errorf("Next(%v): %v, %d, want %v, %d", c.e, got, err, c.want, c.err)
		}
	}
	for _, e := range epochs() {
		want, wrong := of(e.Boot, e.Local+1), api.OK
		if e.Local == top {
			want, wrong = api.Epoch{}, api.ErrWrap
		}
		if got, err := epoch.Next(e); got != want || err != wrong {
			t.Errorf("Next(%v): %v, %d", e, got, err)
		}
	}
}

func TestReboot(t *testing.T) { // P5.4
	for _, c := range []struct {
		e, want api.Epoch
		err     api.Errno
	}{
		{of(0, 0), of(1, 0), api.OK},
		{of(3, 14), of(4, 0), api.OK},
		{of(1<<31-1, 2), of(1<<31, 0), api.OK},
		{of(top-1, 5), of(top, 0), api.OK},
		{of(3, top), of(4, 0), api.OK},
		{of(top-1, top), of(top, 0), api.OK},
		{of(top, 0), of(0, 0), api.ErrWrap},
		{of(top, 7), of(0, 0), api.ErrWrap},
		{of(top, top), of(0, 0), api.ErrWrap},
	} {
		if got, err := epoch.Reboot(c.e); got != c.want || err != c.err {
			t.Errorf("Reboot(%v): %v, %d, want %v, %d", c.e, got, err, c.want, c.err)
		}
	}
	for _, e := range epochs() {
		want, wrong := of(e.Boot+1, 0), api.OK
		if e.Boot == top {
			want, wrong = api.Epoch{}, api.ErrWrap
		}
		if got, err := epoch.Reboot(e); got != want || err != wrong {
			t.Errorf("Reboot(%v): %v, %d", e, got, err)
		}
	}
}

func TestSwap(t *testing.T) { // P5.5
	if got := epoch.Swap(pair(of(1, 2), of(3, 4))); got != pair(of(3, 4), of(1, 2)) {
		t.Errorf("Swap: %v", got)
	}
	for _, p := range pairs() {
		got := epoch.Swap(p)
		if got.Mine != p.Theirs || got.Theirs != p.Mine {
			t.Errorf("Swap(%v): %v", p, got)
		}
		if epoch.Swap(got) != p {
			t.Errorf("Swap(%v) twice: %v", p, epoch.Swap(got))
		}
	}
}

func TestSame(t *testing.T) { // P5.6
	a, b, none := of(1, 2), of(3, 4), api.Epoch{}
	for _, c := range []struct {
		mine, theirs api.Pair
		want         bool
	}{
		{pair(a, b), pair(b, a), true},
		{pair(b, a), pair(a, b), true},
		{pair(a, a), pair(a, a), true},
		{pair(of(0, 1), of(1, 0)), pair(of(1, 0), of(0, 1)), true},
		{pair(a, b), pair(a, b), false},
		{pair(a, b), pair(b, of(1, 3)), false},
		{pair(a, b), pair(b, of(2, 2)), false},
		{pair(a, b), pair(of(3, 5), a), false},
		{pair(a, b), pair(of(4, 4), a), false},
		{pair(a, b), pair(b, none), false},
		{pair(a, b), pair(none, a), false},
		{pair(a, none), pair(none, a), false},
		{pair(none, b), pair(b, none), false},
		{pair(none, none), pair(none, none), false},
		{pair(a, b), pair(none, none), false},
		{pair(none, none), pair(a, b), false},
	} {
		if got := epoch.Same(c.mine, c.theirs); got != c.want {
			t.Errorf("Same(%v, %v): %t", c.mine, c.theirs, got)
		}
	}
	for _, p := range pairs() {
		held := p.Mine != none && p.Theirs != none
		if got := epoch.Same(p, pair(p.Theirs, p.Mine)); got != held {
			t.Errorf("Same(%v, its swap): %t", p, got)
		}
		for i := range 4 {
			other := pair(p.Theirs, p.Mine)
			*[]*uint32{&other.Mine.Boot, &other.Mine.Local, &other.Theirs.Boot, &other.Theirs.Local}[i] ^= 1 << (i * 10)
			if epoch.Same(p, other) || epoch.Same(other, p) {
				t.Errorf("Same(%v, %v): true", p, other)
			}
		}
	}
}

// written is the bytes of a pair, as the library writes numbers.
func written(p api.Pair) string {
	var out []byte
	for _, n := range []uint32{p.Mine.Boot, p.Mine.Local, p.Theirs.Boot, p.Theirs.Local} {
		out = binary.BigEndian.AppendUint32(out, n)
	}
	return string(out)
}

func TestBytes(t *testing.T) { // P5.7
	for _, c := range []struct {
		p    api.Pair
		want string
	}{
		{api.Pair{}, strings.Repeat("\x00", 16)},
		{pair(of(1, 2), of(3, 4)), "\x00\x00\x00\x01\x00\x00\x00\x02\x00\x00\x00\x03\x00\x00\x00\x04"},
		{pair(of(0x01020304, 0x05060708), of(0x090a0b0c, 0x0d0e0f10)), "\x01\x02\x03\x04\x05\x06\x07\x08\x09\x0a\x0b\x0c\x0d\x0e\x0f\x10"},
		{pair(of(top, 0), of(0, top)), "\xff\xff\xff\xff\x00\x00\x00\x00\x00\x00\x00\x00\xff\xff\xff\xff"},
		{pair(of(top, top), of(top, top)), strings.Repeat("\xff", 16)},
	} {
		if got := epoch.Bytes(c.p); got != c.want {
			t.Errorf("Bytes(%v): %q, want %q", c.p, got, c.want)
		}
	}
	for _, p := range pairs() {
		if got := epoch.Bytes(p); got != written(p) {
			t.Errorf("Bytes(%v): %q", p, got)
		}
	}
}

func TestRead(t *testing.T) { // P5.8
	const ones = "\x01\x02\x03\x04\x05\x06\x07\x08\x09\x0a\x0b\x0c\x0d\x0e\x0f\x10"
	whole := pair(of(0x01020304, 0x05060708), of(0x090a0b0c, 0x0d0e0f10))
	for _, c := range []struct {
		s    string
		p    api.Pair
		rest string
		err  api.Errno
	}{
		{ones, whole, "", api.OK},
		{ones + "x", whole, "x", api.OK},
		{ones + ones, whole, ones, api.OK},
		{strings.Repeat("\x00", 17), api.Pair{}, "\x00", api.OK},
		{strings.Repeat("\xff", 16), pair(of(top, top), of(top, top)), "", api.OK},
		{"", api.Pair{}, "", api.ErrShort},
		{"\x01", api.Pair{}, "", api.ErrShort},
		{ones[:8], api.Pair{}, "", api.ErrShort},
		{ones[:12], api.Pair{}, "", api.ErrShort},
		{ones[:15], api.Pair{}, "", api.ErrShort},
	} {
		p, rest, err := epoch.Read(c.s)
		if p != c.p || rest != c.rest || err != c.err {
			t.Errorf("Read(%q): %v, %q, %d", c.s, p, rest, err)
		}
	}
	for n := range 16 {
		for _, b := range []string{"\x00", "\x7f", "\xff"} {
			p, rest, err := epoch.Read(strings.Repeat(b, n))
			if p != (api.Pair{}) || rest != "" || err != api.ErrShort {
				t.Errorf("Read of %d bytes %q: %v, %q, %d", n, b, p, rest, err)
			}
		}
	}
}

func TestText(t *testing.T) { // P5.9
	for e, want := range map[api.Epoch]string{
		of(0, 0):          "0.0",
		of(3, 14):         "3.14",
		of(14, 3):         "14.3",
		of(0, 10):         "0.10",
		of(100, 0):        "100.0",
		of(1<<31, 1<<31):  "2147483648.2147483648",
		of(top, 0):        "4294967295.0",
		of(0, top):        "0.4294967295",
		of(top, top):      "4294967295.4294967295",
		of(999999999, 10): "999999999.10",
	} {
		if got := epoch.Text(e); got != want {
			t.Errorf("Text(%v): %q, want %q", e, got, want)
		}
	}
	for _, e := range epochs() {
		if got, want := epoch.Text(e), fmt.Sprintf("%d.%d", e.Boot, e.Local); got != want {
			t.Errorf("Text(%v): %q, want %q", e, got, want)
		}
	}
}

func TestParse(t *testing.T) { // P5.10
	for s, want := range map[string]api.Epoch{
		"0.0":                   of(0, 0),
		"3.14":                  of(3, 14),
		"14.3":                  of(14, 3),
		"10.100":                of(10, 100),
		"4294967295.0":          of(top, 0),
		"0.4294967295":          of(0, top),
		"4294967295.4294967295": of(top, top),
	} {
		if got, err := epoch.Parse(s); got != want || err != api.OK {
			t.Errorf("Parse(%q): %v, %d", s, got, err)
		}
	}
}

func TestParseOfNoEpoch(t *testing.T) { // P5.10
	for _, s := range []string{
		"", ".", "..", "0", "3", "3.", ".3", "3..14", "3.1.4", ".3.14", "3.14.", "3,14", "3 14", "3:14",
		"3.014", "03.14", "00.0", "0.00", "000.000", "0000000000.0", "3.00000000000000000000000014",
		"+3.14", "-3.14", "3.+14", "3.-14", "-0.0", "0.-0", "+0.0", " 3.14", "3.14 ", "3 .14", "3. 14", "3.14\n", "\t3.14", "3.14\x00", "\x003.14",
		"0x3.14", "3.0x14", "a.b", "3.b", "a.14", "3.e", "1e2.0", "1_0.0", "0.1_0", "0b1.0", "0o7.0", "\uff13.14", "3\u066b14", "3\u200b.14", "\u0663.14", "3.\xff", "\xff.3", "3\x2e\x2e14",
		"nan.nan", "inf.inf", "4294967296.0", "0.4294967296", "4294967296.4294967296", "4294967297.1", "9999999999.0", "42949672950.0", "0.42949672950",
		"18446744073709551615.0", "18446744073709551616.0", "0.18446744073709551616", "99999999999999999999999999.0",
	} {
		if got, err := epoch.Parse(s); got != (api.Epoch{}) || err != api.ErrForm {
			t.Errorf("Parse(%q): %v, %d", s, got, err)
		}
	}
}

func TestParseOfLong(t *testing.T) { // P5.10
	for n := range 80 {
		want := api.ErrForm
		if n > 30 {
			want = api.ErrLong
		}
		for _, s := range []string{strings.Repeat("1", n), strings.Repeat(".", n), strings.Repeat("\xff", n), ("4294967295." + strings.Repeat("0", n))[:n], (strings.Repeat("0", max(n-4, 0)) + "3.14")[:n]} {
			if len(s) != n || n >= 3 && n <= 12 {
				continue // among these are epochs' texts
			}
			if got, err := epoch.Parse(s); got != (api.Epoch{}) || err != want {
				t.Errorf("Parse(%q), of %d bytes: %v, %d, want %d", s, n, got, err, want)
			}
		}
	}
	if got, err := epoch.Parse(strings.Repeat("3.14", 1<<18)); got != (api.Epoch{}) || err != api.ErrLong {
		t.Errorf("Parse of %d bytes: %v, %d", 1<<20, got, err)
	}
}

func TestAge(t *testing.T) { // P5.11
	for _, c := range []struct {
		old, now api.Epoch
		want     int
	}{
		{of(3, 14), of(3, 15), 1},
		{of(3, 14), of(4, 0), 2},
		{of(3, 14), of(4, 14), 2},
		{of(3, 14), of(4, 15), 2},
		{of(3, 14), of(9, 99), 2},
		{of(3, 14), of(3, 14), 0},
		{of(3, 14), of(3, 13), -1},
		{of(3, 14), of(2, 14), -1},
		{of(3, 14), of(2, 99), -1},
		{of(3, 14), of(0, 0), -1},
		{of(0, 0), of(0, 0), 0},
		{of(0, 0), of(0, 1), 1},
		{of(0, 0), of(0, top), 1},
		{of(0, 0), of(1, 0), 2},
		{of(0, top), of(1, 0), 2},
		{of(0, 0), of(top, top), 2},
		{of(top, top), of(top, top), 0},
		{of(top, top), of(0, 0), -1},
		{of(top, 0), of(top, top), 1},
	} {
		if got := epoch.Age(c.old, c.now); got != c.want {
			t.Errorf("Age(%v, %v): %d, want %d", c.old, c.now, got, c.want)
		}
	}
	all := epochs()
	for _, old := range all {
		for _, now := range all {
			want := place(now).Cmp(place(old))
			if want > 0 && old.Boot != now.Boot {
				want = 2
			}
			if got := epoch.Age(old, now); got != want {
				t.Fatalf("Age(%v, %v): %d, want %d", old, now, got, want)
			}
		}
	}
}

func TestOneIsNewer(t *testing.T) { // P5.12
	all := epochs()
	for _, a := range all {
		for _, b := range all {
			ab, ba := epoch.Newer(a, b), epoch.Newer(b, a)
			if a == b && (ab || ba) || a != b && ab == ba {
				t.Fatalf("%v is newer than %v: %t, and the other way round: %t", a, b, ab, ba)
			}
		}
	}
}

func TestNextIsNewer(t *testing.T) { // P5.12
	for _, e := range epochs() {
		next, err := epoch.Next(e)
		if err == api.OK && (!epoch.Newer(next, e) || epoch.Newer(e, next) || epoch.Age(e, next) != 1) {
			t.Errorf("%v, next to %v, is not newer", next, e)
		}
		start, failed := epoch.Reboot(e)
		if failed == api.OK && (!epoch.Newer(start, e) || epoch.Newer(e, start) || epoch.Age(e, start) != 2) {
			t.Errorf("%v, a start behind %v, is not newer", start, e)
		}
		if err == api.OK && failed == api.OK && !epoch.Newer(start, next) {
			t.Errorf("%v, a start behind %v, is not newer than %v, which is next", start, e, next)
		}
	}
}

func TestWrittenIsRead(t *testing.T) { // P5.13
	for i, p := range pairs() {
		rest := rests[i%len(rests)]
		got, left, err := epoch.Read(epoch.Bytes(p) + rest)
		if got != p || left != rest || err != api.OK {
			t.Errorf("Read of Bytes(%v) and %q: %v, %q, %d", p, rest, got, left, err)
		}
	}
	r := rand.New(rand.NewSource(13))
	for range 1000 {
		b := make([]byte, 16+r.Intn(4))
		r.Read(b)
		p, rest, err := epoch.Read(string(b))
		if err != api.OK || epoch.Bytes(p)+rest != string(b) {
			t.Errorf("Read(%q): %v, %q, %d", b, p, rest, err)
		}
	}
}

func TestToldIsRead(t *testing.T) { // P5.14
	for _, e := range epochs() {
		if got, err := epoch.Parse(epoch.Text(e)); got != e || err != api.OK {
			t.Errorf("Parse of Text(%v): %v, %d", e, got, err)
		}
	}
}

// texts are all of up to five of the pieces at which a text's meaning changes.
func texts() []string {
	pieces := []string{"0", "1", "9", ".", "-", "+", " ", "_", "e", "x", "4294967295", "4294967296", "\x00", "\xff"}
	level, l := []string{""}, []string{""}
	for range 5 {
		var next []string
		for _, s := range level {
			for _, p := range pieces {
				next = append(next, s+p)
			}
		}
		level, l = next, append(l, next...)
	}
	return l
}

// form is two decimal numbers without zeros in front, and a full stop between.
var form = regexp.MustCompile(`^(0|[1-9][0-9]*)\.(0|[1-9][0-9]*)$`)

// isText tells whether s is an epoch's text, by its form and by the greatness of its numbers.
func isText(s string) bool {
	parts := form.FindStringSubmatch(s)
	if parts == nil {
		return false
	}
	for _, part := range parts[1:] {
		n, ok := new(big.Int).SetString(part, 10)
		if !ok || n.Cmp(big.NewInt(top)) > 0 {
			return false
		}
	}
	return true
}

func TestReadIsTold(t *testing.T) { // P5.10, P5.14
	for _, s := range texts() {
		want := api.OK
		switch {
		case len(s) > 30:
			want = api.ErrLong
		case !isText(s):
			want = api.ErrForm
		}
		got, err := epoch.Parse(s)
		if err != want || err != api.OK && got != (api.Epoch{}) {
			t.Fatalf("Parse(%q): %v, %d, want %d", s, got, err, want)
		}
		if err == api.OK && epoch.Text(got) != s {
			t.Fatalf("Parse(%q) is %v, whose Text is %q", s, got, epoch.Text(got))
		}
	}
}

// FuzzEpoch holds what the calls say of any texts and numbers against each other (R1, P5.2, P5.6, P5.8, P5.10 to P5.14).
func FuzzEpoch(f *testing.F) {
	for _, s := range []string{"", ".", "3.14", "3.014", "+3.14", "4294967296.0", strings.Repeat("1", 31)} {
		f.Add(s, uint32(3), uint32(14), uint32(4), uint32(top))
	}
	f.Fuzz(func(t *testing.T, s string, a, b, c, d uint32) {
		got, err := epoch.Parse(s)
		if ok := len(s) <= 30 && isText(s); ok != (err == api.OK) || ok && epoch.Text(got) != s || !ok && got != (api.Epoch{}) {
			t.Errorf("Parse(%q): %v, %d", s, got, err)
		}
		p, rest, err := epoch.Read(s)
		if (err == api.OK) != (len(s) >= 16) || err == api.OK && epoch.Bytes(p)+rest != s {
			t.Errorf("Read(%q): %v, %q, %d", s, p, rest, err)
		}
		mine := pair(of(a, b), of(c, d))
		if again, rest, err := epoch.Read(epoch.Bytes(mine) + s); again != mine || rest != s || err != api.OK {
			t.Errorf("Read of Bytes(%v) and %q: %v, %q, %d", mine, s, again, rest, err)
		}
		held := !epoch.None(mine.Mine) && !epoch.None(mine.Theirs)
		if epoch.Same(mine, epoch.Swap(mine)) != held {
			t.Errorf("Same(%v, its swap): %t", mine, !held)
		}
		age := epoch.Age(mine.Mine, mine.Theirs)
		if (age < 0) != epoch.Newer(mine.Mine, mine.Theirs) || (age > 0) != epoch.Newer(mine.Theirs, mine.Mine) || (age == 2) != (c > a) {
			t.Errorf("Age(%v, %v): %d", mine.Mine, mine.Theirs, age)
		}
	})
}
