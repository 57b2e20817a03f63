package pack_test

import (
	"encoding/binary"
	"math"
	"math/rand"
	"strings"
	"testing"

	"fingerpost/api"
	"fingerpost/pack"
)

// numbers are those at which widths, signs and bytes begin or end, and some between.
func numbers() []uint64 {
	l := []uint64{0, 300, 513, 0x0102030405060708, math.MaxUint64}
	for i := range 64 {
		n := uint64(1) << i
		l = append(l, n-1, n, n+1)
	}
	r := rand.New(rand.NewSource(1))
	for range 500 {
		l = append(l, r.Uint64()>>r.Intn(64))
	}
	return l
}

// texts are short ones of the bytes at which a byte's meaning changes, alone and behind up to nine bytes that go on.
func texts() []string {
	edge := []byte{0, 1, 2, 0x7f, 0x80, 0x81, 0xff}
	level, l := []string{""}, []string{""}
	for range 3 {
		var next []string
		for _, s := range level {
			for _, b := range edge {
				next = append(next, s+string([]byte{b}))
			}
		}
		level, l = next, append(l, next...)
	}
	short := len(l)
	for n := 1; n <= 9; n++ {
		for _, s := range l[:short] {
			l = append(l, strings.Repeat("\x80", n)+s, strings.Repeat("\xff", n)+s)
		}
	}
	return l
}

func TestNum(t *testing.T) { // P1.1
	for _, c := range []struct {
		n     uint64
		bytes int
		want  string
	}{
		{513, 2, "\x02\x01"},
		{513, 1, "\x01"},
		{513, 4, "\x00\x00\x02\x01"},
		{513, 0, ""},
		{7, -1, ""},
		{7, math.MinInt, ""},
		{0, 3, "\x00\x00\x00"},
		{0x0102030405060708, 8, "\x01\x02\x03\x04\x05\x06\x07\x08"},
		{0x0102030405060708, 7, "\x02\x03\x04\x05\x06\x07\x08"},
		{0x0102030405060708, 3, "\x06\x07\x08"},
		{0x0102030405060708, 9, "\x01\x02\x03\x04\x05\x06\x07\x08"},
		{math.MaxUint64, math.MaxInt, "\xff\xff\xff\xff\xff\xff\xff\xff"},
	} {
		if got := pack.Num(c.n, c.bytes); got != c.want {
			t.Errorf("Num(%d, %d): %q, want %q", c.n, c.bytes, got, c.want)
		}
	}
	for _, n := range numbers() {
		whole := string(binary.BigEndian.AppendUint64(nil, n))
		for bytes := range 9 {
			if got, want := pack.Num(n, bytes), whole[8-bytes:]; got != want {
				t.Errorf("Num(%d, %d): %q, want %q", n, bytes, got, want)
			}
		}
	}
}

func TestTake(t *testing.T) { // P1.2
	for _, c := range []struct {
		s     string
		bytes int
		n     uint64
		rest  string
		err   api.Errno
	}{
		{"\x02\x01", 2, 513, "", api.OK},
		{"\x02\x01xy", 2, 513, "xy", api.OK},
		{"\x02\x01xy", 1, 2, "\x01xy", api.OK},
		{"x", 0, 0, "x", api.OK},
		{"", 0, 0, "", api.OK},
		{"\xff\xff\xff\xff\xff\xff\xff\xff\xff", 8, math.MaxUint64, "\xff", api.OK},
		{"\x01\x02\x03\x04\x05\x06\x07\x08", 8, 0x0102030405060708, "", api.OK},
		{"", 1, 0, "", api.ErrShort},
		{"abc", 4, 0, "", api.ErrShort},
		{"abcdefg", 8, 0, "", api.ErrShort},
		{"abcdefghijk", 9, 0, "", api.ErrArg},
		{"abc", 9, 0, "", api.ErrArg},
		{"", 9, 0, "", api.ErrArg},
		{"abc", -1, 0, "", api.ErrArg},
		{"", -1, 0, "", api.ErrArg},
		{"abc", math.MinInt, 0, "", api.ErrArg},
		{"abc", math.MaxInt, 0, "", api.ErrArg},
	} {
		n, rest, err := pack.Take(c.s, c.bytes)
		if n != c.n || rest != c.rest || err != c.err {
			t.Errorf("Take(%q, %d): %d, %q, %d", c.s, c.bytes, n, rest, err)
		}
	}
}

func TestRest(t *testing.T) { // P1.3
	for s, want := range map[string]api.Errno{
		"":         api.OK,
		"x":        api.ErrForm,
		"\x00":     api.ErrForm,
		" \n":      api.ErrForm,
		"\xff\x80": api.ErrForm,
	} {
		if got := pack.Rest(s); got != want {
			t.Errorf("Rest(%q): %d, want %d", s, got, want)
		}
	}
}

func TestBlob(t *testing.T) { // P1.4
	for long := range 300 {
		s := strings.Repeat("\xfez", long)[:long]
		got, err := pack.Blob(s)
		if long > 255 {
			if got != "" || err != api.ErrLong {
				t.Errorf("Blob of %d bytes: %q, %d", long, got, err)
			}
			continue
		}
		if want := string([]byte{byte(long)}) + s; got != want || err != api.OK {
			t.Errorf("Blob of %d bytes: %q, %d", long, got, err)
		}
	}
	if got, err := pack.Blob(strings.Repeat("x", 1<<16)); got != "" || err != api.ErrLong {
		t.Errorf("Blob of 65536 bytes: %d bytes, %d", len(got), err)
	}
}

func TestUnblob(t *testing.T) { // P1.4
	full := strings.Repeat("q", 255)
	for _, c := range []struct {
		s, text, rest string
		err           api.Errno
	}{
		{"\x00", "", "", api.OK},
		{"\x00ab", "", "ab", api.OK},
		{"\x02ab", "ab", "", api.OK},
		{"\x02abc", "ab", "c", api.OK},
		{"\x01\x00\x00", "\x00", "\x00", api.OK},
		{"\xff" + full, full, "", api.OK},
		{"\xff" + full + "r", full, "r", api.OK},
		{"", "", "", api.ErrShort},
		{"\x01", "", "", api.ErrShort},
		{"\x03ab", "", "", api.ErrShort},
		{"\xff" + full[1:], "", "", api.ErrShort},
		{"\x80" + full[:127], "", "", api.ErrShort},
	} {
		text, rest, err := pack.Unblob(c.s)
		if text != c.text || rest != c.rest || err != c.err {
			t.Errorf("Unblob(%q): %q, %q, %d", c.s, text, rest, err)
		}
	}
}

func TestFlip(t *testing.T) { // P1.5
	for _, c := range []struct {
		s    string
		bit  int
		want string
	}{
		{"\x00\x00", 0, "\x80\x00"},
		{"\x00\x00", 1, "\x40\x00"},
		{"\x00\x00", 7, "\x01\x00"},
		{"\x00\x00", 8, "\x00\x80"},
		{"\x00\x00", 13, "\x00\x04"},
		{"\x00\x00", 15, "\x00\x01"},
		{"\xff\xff", 0, "\x7f\xff"},
		{"\xff\xff", 15, "\xff\xfe"},
		{"ab", 16, "ab"},
		{"ab", 99, "ab"},
		{"ab", -1, "ab"},
		{"ab", -7, "ab"},
		{"ab", -8, "ab"},
		{"ab", -9, "ab"},
		{"ab", math.MaxInt, "ab"},
		{"ab", math.MinInt, "ab"},
		{"", 0, ""},
		{"", -1, ""},
	} {
		if got := pack.Flip(c.s, c.bit); got != c.want {
			t.Errorf("Flip(%q, %d): %q, want %q", c.s, c.bit, got, c.want)
		}
	}
}

func TestVar(t *testing.T) { // P1.6
	for n, want := range map[uint64]string{
		0:              "\x00",
		1:              "\x01",
		127:            "\x7f",
		128:            "\x80\x01",
		300:            "\xac\x02",
		1<<14 - 1:      "\xff\x7f",
		1 << 14:        "\x80\x80\x01",
		1<<63 - 1:      "\xff\xff\xff\xff\xff\xff\xff\xff\x7f",
		1 << 63:        "\x80\x80\x80\x80\x80\x80\x80\x80\x80\x01",
		math.MaxUint64: "\xff\xff\xff\xff\xff\xff\xff\xff\xff\x01",
	} {
		if got := pack.Var(n); got != want {
			t.Errorf("Var(%d): %q, want %q", n, got, want)
		}
	}
	for _, n := range numbers() {
		if got, want := pack.Var(n), string(binary.AppendUvarint(nil, n)); got != want {
			t.Errorf("Var(%d): %q, want %q", n, got, want)
		}
	}
}

func TestUnvar(t *testing.T) { // P1.7
	eight, nine := strings.Repeat("\x80", 8), strings.Repeat("\x80", 9)
	for _, c := range []struct {
		s    string
		n    uint64
		rest string
		err  api.Errno
	}{
		{"\x00", 0, "", api.OK},
		{"\x00\x00", 0, "\x00", api.OK},
		{"\x7f\x80", 127, "\x80", api.OK},
		{"\xac\x02x", 300, "x", api.OK},
		{"\x80\x01", 128, "", api.OK},
		{"\x80\x80\x80\x01rest", 1 << 21, "rest", api.OK},
		{eight + "\x01", 1 << 56, "", api.OK},
		{nine + "\x01", 1 << 63, "", api.OK},
		{nine + "\x01\xff", 1 << 63, "\xff", api.OK},
		{strings.Repeat("\xff", 9) + "\x01\x00", math.MaxUint64, "\x00", api.OK},
		{nine + "\x02", 0, "", api.ErrLong},
		{nine + "\x7f", 0, "", api.ErrLong},
		{nine + "\x80", 0, "", api.ErrLong},
		{nine + "\x81\x00", 0, "", api.ErrLong},
		{nine + "\xff\x01", 0, "", api.ErrLong},
		{nine + "\x80\x80\x01", 0, "", api.ErrLong},
		{"\x80\x00", 0, "", api.ErrForm},
		{"\xff\x00x", 0, "", api.ErrForm},
		{"\x81\x80\x00", 0, "", api.ErrForm},
		{eight + "\x00", 0, "", api.ErrForm},
		{nine + "\x00", 0, "", api.ErrForm},
		{nine + "\x00\x01", 0, "", api.ErrForm},
		{"", 0, "", api.ErrShort},
		{"\x80", 0, "", api.ErrShort},
		{"\xff\xff", 0, "", api.ErrShort},
		{nine, 0, "", api.ErrShort},
	} {
		n, rest, err := pack.Unvar(c.s)
		if n != c.n || rest != c.rest || err != c.err {
			t.Errorf("Unvar(%q): %d, %q, %d, want %d, %q, %d", c.s, n, rest, err, c.n, c.rest, c.err)
		}
	}
}

func TestZig(t *testing.T) { // P1.8
	for n, want := range map[int]uint64{
		0:               0,
		-1:              1,
		1:               2,
		-2:              3,
		2:               4,
		-150:            299,
		150:             300,
		math.MaxInt:     math.MaxUint64 - 1,
		math.MinInt:     math.MaxUint64,
		math.MaxInt - 1: math.MaxUint64 - 3,
		math.MinInt + 1: math.MaxUint64 - 2,
		math.MaxInt32:   math.MaxUint32 - 1,
		math.MinInt32:   math.MaxUint32,
	} {
		if got := pack.Zig(n); got != want {
			t.Errorf("Zig(%d): %d, want %d", n, got, want)
		}
	}
}

func TestZag(t *testing.T) { // P1.9
	for u, want := range map[uint64]int{
		0:                  0,
		1:                  -1,
		2:                  1,
		3:                  -2,
		4:                  2,
		299:                -150,
		300:                150,
		math.MaxUint64:     math.MinInt,
		math.MaxUint64 - 1: math.MaxInt,
		math.MaxUint64 - 2: math.MinInt + 1,
		math.MaxUint64 - 3: math.MaxInt - 1,
	} {
		if got := pack.Zag(u); got != want {
			t.Errorf("Zag(%d): %d, want %d", u, got, want)
		}
	}
}

func TestPutIsTaken(t *testing.T) { // P1.10
	for _, rest := range []string{"", "x", "\x00", "\x80\xff"} {
		for _, n := range numbers() {
			for bytes := range 9 {
				want := n
				if bytes < 8 {
					want = n % (1 << (8 * bytes))
				}
				got, left, err := pack.Take(pack.Num(n, bytes)+rest, bytes)
				if got != want || left != rest || err != api.OK {
					t.Errorf("Take of Num(%d, %d) and %q: %d, %q, %d", n, bytes, rest, got, left, err)
				}
			}
			if got, left, err := pack.Unvar(pack.Var(n) + rest); got != n || left != rest || err != api.OK {
				t.Errorf("Unvar of Var(%d) and %q: %d, %q, %d", n, rest, got, left, err)
			}
		}
		for long := range 256 {
			s := strings.Repeat("\x80\x01", 128)[:long]
			b, _ := pack.Blob(s)
			if got, left, err := pack.Unblob(b + rest); got != s || left != rest || err != api.OK {
				t.Errorf("Unblob of a blob of %d bytes and %q: %q, %q, %d", long, rest, got, left, err)
			}
		}
	}
}

func TestFlippedTwice(t *testing.T) { // P1.10
	for _, s := range []string{"", "a", "ab", "\x00\xff\x80", strings.Repeat("\x5a", 9)} {
		for bit := -20; bit < 100; bit++ {
			once := pack.Flip(s, bit)
			if there := bit >= 0 && bit < 8*len(s); (once != s) != there || len(once) != len(s) {
				t.Errorf("Flip(%q, %d): %q", s, bit, once)
			}
			if got := pack.Flip(once, bit); got != s {
				t.Errorf("Flip(%q, %d) twice: %q", s, bit, got)
			}
		}
	}
}

func TestOneVarEach(t *testing.T) { // P1.11
	for _, s := range texts() {
		n, rest, err := pack.Unvar(s)
		if err != api.OK {
			if n != 0 || rest != "" {
				t.Errorf("Unvar(%q): %d, %q beside the error %d", s, n, rest, err)
			}
			continue
		}
		if got := pack.Var(n) + rest; got != s {
			t.Errorf("Unvar(%q) is %d, whose Var and rest are %q", s, n, got)
		}
	}
}

func TestOneZigEach(t *testing.T) { // P1.11
	seen := map[uint64]uint64{}
	for _, u := range numbers() {
		n := pack.Zag(u)
		if got := pack.Zig(n); got != u {
			t.Errorf("Zig(Zag(%d)): %d", u, got)
		}
		if got := pack.Zag(pack.Zig(int(u))); got != int(u) {
			t.Errorf("Zag(Zig(%d)): %d", int(u), got)
		}
		if other, ok := seen[uint64(n)]; ok && other != u {
			t.Errorf("%d and %d have one Zag: %d", other, u, n)
		}
		seen[uint64(n)] = u
	}
}

// FuzzRead holds what is read of any text against what would be written of it (R1, R2, P1.11).
func FuzzRead(f *testing.F) {
	for _, s := range []string{"", "\x02\x01", "\x03ab", "\xac\x02x", strings.Repeat("\xff", 9) + "\x01"} {
		f.Add(s, len(s))
	}
	f.Fuzz(func(t *testing.T, s string, many int) {
		if n, rest, err := pack.Take(s, many); err == api.OK && pack.Num(n, many)+rest != s {
			t.Errorf("Take(%q, %d): %d, %q", s, many, n, rest)
		}
		if text, rest, err := pack.Unblob(s); err == api.OK {
			if b, e := pack.Blob(text); b+rest != s || e != api.OK {
				t.Errorf("Unblob(%q): %q, %q", s, text, rest)
			}
		}
		if n, rest, err := pack.Unvar(s); err == api.OK && pack.Var(n)+rest != s {
			t.Errorf("Unvar(%q): %d, %q", s, n, rest)
		}
		if pack.Flip(pack.Flip(s, many), many) != s {
			t.Errorf("Flip(%q, %d) twice is another text", s, many)
		}
		if pack.Zag(pack.Zig(many)) != many {
			t.Errorf("Zag(Zig(%d)): %d", many, pack.Zag(pack.Zig(many)))
		}
	})
}
