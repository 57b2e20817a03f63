package check_test

import (
	"encoding/binary"
	"hash/adler32"
	"math"
	"math/rand"
	"slices"
	"strings"
	"testing"

	"fingerpost/api"
	"fingerpost/check"
)

// texts are short ones, long ones of the bytes at which a sum grows most and least, and some by chance.
func texts() []string {
	l := []string{"", "a", "ab", "ba", "abc", "\x00", "\x00\x00", "\xff", "\xff\x00", "Wikipedia", "\u00e9\u4e16"}
	for _, n := range []int{2, 15, 16, 255, 256, 257, 4096, 5551, 5552, 5553, 70000} {
		l = append(l, strings.Repeat("\x00", n), strings.Repeat("\xff", n), strings.Repeat("\x80a", n))
	}
	r := rand.New(rand.NewSource(2))
	for range 60 {
		b := make([]byte, r.Intn(300))
		r.Read(b)
		l = append(l, string(b))
	}
	return l
}

// slow is the chapter's sum, in numbers that can't leave their room, with its modulus taken at the end alone.
func slow(sum uint32, s string) uint32 {
	a, b := uint64(sum>>16)%65521, uint64(sum&65535)%65521
	for i := range len(s) {
		b += uint64(s[i])
		a += b
	}
	return uint32(a%65521*65536 + b%65521)
}

func TestMore(t *testing.T) { // P2.1
	for _, c := range []struct {
		sum  uint32
		s    string
		want uint32
	}{
		{0, "", 0},
		{1, "", 1},
		{0, "\x00", 0},
		{1, "\x00", 0x00010001},
		{0, "\x01", 0x00010001},
		{1, "a", 0x00620062},
		{0x00620062, "bc", 0x024d0127},
		{0x00010000, "", 0x00010000},
		{0x00010000, "\x02", 0x00030002},
		{65520, "", 65520},
		{65521, "", 0},
		{65522, "", 1},
		{65535, "", 14},
		{0x0000fff0, "\x00", 0xfff0fff0},
		{0x0000fff0, "\x01", 0},
		{0x0000fff0, "\x02", 0x00010001},
		{0x0000fff0, "\xff", 0x00fe00fe},
		{0xfff00000, "", 0xfff00000},
		{0xfff10000, "", 0},
		{0xfff20000, "", 0x00010000},
		{0xfff00001, "\x00", 0x00000001},
		{0xfff0fff0, "\x00", 0xffeffff0},
		{0xfff1fff1, "", 0},
		{0xffff0000, "", 0x000e0000},
		{math.MaxUint32, "", 0x000e000e},
		{math.MaxUint32, "\x01", 0x001d000f},
		{math.MaxUint32, "\xff", 0x011b010d},
	} {
		if got := check.More(c.sum, c.s); got != c.want {
			t.Errorf("More(%#x, %q): %#x, want %#x", c.sum, c.s, got, c.want)
		}
	}
}

func TestMoreOfAnySum(t *testing.T) { // P2.1
	sums := []uint32{0, 1, 14, 255, 256, 65520, 65521, 65535, 65536, 0xfff00000, 0xfff0fff0, 0xfff1fff1, 0x8000ffff, math.MaxUint32}
	for _, s := range texts() {
		for _, sum := range sums {
			if got, want := check.More(sum, s), slow(sum, s); got != want {
				t.Errorf("More(%#x, %d bytes): %#x, want %#x", sum, len(s), got, want)
			}
		}
		for _, at := range []int{0, 1, len(s) / 2, len(s) - 1, len(s)} {
			at = min(max(at, 0), len(s))
			if got, want := check.More(check.Sum(s[:at]), s[at:]), check.Sum(s); got != want {
				t.Errorf("a sum of %d bytes that goes on from byte %d: %#x, want %#x", len(s), at, got, want)
			}
		}
	}
}

func TestSum(t *testing.T) { // P2.2
	for s, want := range map[string]uint32{
		"":                            1,
		"\x00":                        0x00010001,
		"\x00\x00":                    0x00020001,
		"a":                           0x00620062,
		"ab":                          0x012600c4,
		"ba":                          0x012700c4,
		"abc":                         0x024d0127,
		"Wikipedia":                   300286872,
		strings.Repeat("\x00", 65521): 1,
	} {
		if got := check.Sum(s); got != want {
			t.Errorf("Sum of %d bytes %.9q: %#x, want %#x", len(s), s, got, want)
		}
	}
	for _, s := range texts() {
		want := adler32.Checksum([]byte(s))
		if got := check.Sum(s); got != want || got != check.More(1, s) {
			t.Errorf("Sum of %d bytes: %#x, want %#x", len(s), got, want)
		}
	}
}

func TestSeal(t *testing.T) { // P2.3
	for s, want := range map[string]string{
		"":          "\x00\x00\x00\x01",
		"\x00":      "\x00\x00\x01\x00\x01",
		"a":         "a\x00\x62\x00\x62",
		"abc":       "abc\x02\x4d\x01\x27",
		"Wikipedia": "Wikipedia\x11\xe6\x03\x98",
	} {
		if got := check.Seal(s); got != want {
			t.Errorf("Seal(%q): %q, want %q", s, got, want)
		}
	}
	for _, s := range texts() {
		want := string(binary.BigEndian.AppendUint32([]byte(s), adler32.Checksum([]byte(s))))
		if got := check.Seal(s); got != want {
			t.Errorf("Seal of %d bytes ends in %q, want %q", len(s), got[max(0, len(got)-4):], want[len(s):])
		}
	}
}

func TestOpen(t *testing.T) { // P2.4
	for _, c := range []struct {
		s, want string
		err     api.Errno
	}{
		{"\x00\x00\x00\x01", "", api.OK},
		{"a\x00\x62\x00\x62", "a", api.OK},
		{"abc\x02\x4d\x01\x27", "abc", api.OK},
		{"\x00\x00\x00\x01\x00\x05\x00\x02", "\x00\x00\x00\x01", api.OK},
		{"", "", api.ErrShort},
		{"a", "", api.ErrShort},
		{"abc", "", api.ErrShort},
		{"\x00\x00\x01", "", api.ErrShort},
		{"abcd", "", api.ErrSum},
		{"\x00\x00\x00\x00", "", api.ErrSum},
		{"\x01\x00\x00\x00", "", api.ErrSum},
		{"\x00\x01\x00\x00", "", api.ErrSum},
		{"a\x62\x00\x62\x00", "", api.ErrSum},
		{"b\x00\x62\x00\x62", "", api.ErrSum},
		{"abc\x02\x4d\x01", "", api.ErrSum},
		{"abc\x02\x4d\x01\x27\x00", "", api.ErrSum},
		{"\x02\x4d\x01\x27abc", "", api.ErrSum},
		// These are the sums but for the modulus: one above it in the lower half, and in the higher one.
		{"\x00\x00\xff\xf2", "", api.ErrSum},
		{"\xff\xf1\x00\x01", "", api.ErrSum},
	} {
		if got, err := check.Open(c.s); got != c.want || err != c.err {
			t.Errorf("Open(%q): %q, %d, want %q, %d", c.s, got, err, c.want, c.err)
		}
	}
}

func TestBlocks(t *testing.T) { // P2.5
	for _, c := range []struct {
		s    string
		size int
		want []uint32
	}{
		{"", 1, nil},
		{"", 4096, nil},
		{"a", 1, []uint32{0x00620062}},
		{"a", 2, []uint32{0x00620062}},
		{"a", 4096, []uint32{0x00620062}},
		{"aab", 1, []uint32{0x00620062, 0x00620062, 0x00630063}},
		{"aab", 2, []uint32{check.Sum("aa"), check.Sum("b")}},
		{"aab", 3, []uint32{check.Sum("aab")}},
		{"aab", 4, []uint32{check.Sum("aab")}},
		{"abcd", 2, []uint32{check.Sum("ab"), check.Sum("cd")}},
		{"\x00\x00\x00", 2, []uint32{0x00020001, 0x00010001}},
	} {
		if got := check.Blocks(c.s, c.size); !slices.Equal(got, c.want) {
			t.Errorf("Blocks(%q, %d): %#x, want %#x", c.s, c.size, got, c.want)
		}
	}
}

func TestBlocksOfAnySize(t *testing.T) { // P2.5
	for _, s := range texts() {
		for _, size := range []int{1, 2, 3, 7, 255, 256, 4095, 4096} {
			var want []uint32
			for part := range slices.Chunk([]byte(s), size) {
				want = append(want, adler32.Checksum(part))
			}
			if got := check.Blocks(s, size); !slices.Equal(got, want) {
				t.Errorf("Blocks of %d bytes, size %d: %d sums that are not the %d wanted", len(s), size, len(got), len(want))
			}
		}
	}
}

func TestBlocksOfNoSize(t *testing.T) { // P2.5, R1
	for _, size := range []int{0, -1, math.MinInt, 4097, 1 << 16, math.MaxInt} {
		for _, s := range []string{"", "a", strings.Repeat("ab", 4097)} {
			if got := check.Blocks(s, size); len(got) != 0 {
				t.Errorf("Blocks of %d bytes, size %d: %#x", len(s), size, got)
			}
		}
	}
}

func TestBlocksAreNew(t *testing.T) { // P2.5, R3
	first := check.Blocks("aab", 2)
	want := slices.Clone(first)
	clear(check.Blocks("aab", 2))
	if !slices.Equal(first, want) {
		t.Errorf("the sums of one call are changed through those of another: %#x", first)
	}
}

func TestSealedIsOpened(t *testing.T) { // P2.6
	for _, s := range texts() {
		if got, err := check.Open(check.Seal(s)); got != s || err != api.OK {
			t.Errorf("Open of a seal of %d bytes: %d bytes, %d", len(s), len(got), err)
		}
		if got, err := check.Open(check.Seal(check.Seal(s))); got != check.Seal(s) || err != api.OK {
			t.Errorf("Open of two seals of %d bytes: %d bytes, %d", len(s), len(got), err)
		}
	}
}

// shut tells a text that can't be opened, and that nothing is answered beside its error.
func shut(t *testing.T, s, what string) {
	t.Helper()
	if got, err := check.Open(s); got != "" || err != api.ErrSum {
		t.Errorf("Open of %q, %s: %q, %d", s, what, got, err)
	}
}

func TestAnotherByteIsSeen(t *testing.T) { // P2.6
	for _, text := range []string{"", "a", "\x00\x00", "\xff\xff\xff", "Wikipedia", strings.Repeat("\xff\x00", 130)} {
		sealed := []byte(check.Seal(text))
		for i, old := range sealed {
			for b := range 256 {
				if byte(b) == old {
					continue
				}
				sealed[i] = byte(b)
				shut(t, string(sealed), "with another byte")
			}
			sealed[i] = old
		}
	}
}

func TestExchangedBytesAreSeen(t *testing.T) { // P2.6
	for _, text := range texts() {
		if len(text) > 300 {
			continue
		}
		sealed := []byte(check.Seal(text))
		for i := 1; i < len(sealed); i++ {
			if sealed[i-1] == sealed[i] {
				continue
			}
			sealed[i-1], sealed[i] = sealed[i], sealed[i-1]
			shut(t, string(sealed), "with two bytes exchanged")
			sealed[i-1], sealed[i] = sealed[i], sealed[i-1]
		}
	}
}

func TestOneBlockDiffers(t *testing.T) { // P2.7
	text := []byte(strings.Repeat("\x00\xffWiki\x80", 5) + "end")
	for _, size := range []int{1, 2, 5, 19, 37, 38, 39, 4096} {
		was := check.Blocks(string(text), size)
		for i, old := range text {
			for _, b := range []byte{0, 1, 127, 128, 254, 255, old + 1, old - 1, old ^ 64} {
				if b == old {
					continue
				}
				text[i] = b
				oneDiffers(t, was, check.Blocks(string(text), size), i/size)
			}
			text[i] = old
		}
	}
}

// oneDiffers holds two lists of sums that should be alike but at one place.
func oneDiffers(t *testing.T, was, now []uint32, at int) {
	t.Helper()
	if len(was) != len(now) {
		t.Fatalf("%d blocks, and %d of a text as long", len(was), len(now))
	}
	for i := range was {
		if (was[i] != now[i]) != (i == at) {
			t.Errorf("another byte in block %d: block %d is %#x, and was %#x", at, i, now[i], was[i])
		}
	}
}

// FuzzOpen holds what is opened of any text against what would be sealed of it (R1, R2, P2.6).
func FuzzOpen(f *testing.F) {
	for _, s := range []string{"", "abc", "\x00\x00\x00\x01", "a\x00\x62\x00\x62", "b\x00\x62\x00\x62"} {
		f.Add(s, uint32(len(s)), len(s))
	}
	f.Fuzz(func(t *testing.T, s string, sum uint32, size int) {
		text, err := check.Open(s)
		switch {
		case len(s) < 4:
			if text != "" || err != api.ErrShort {
				t.Errorf("Open(%q): %q, %d", s, text, err)
			}
		case err == api.OK:
			if check.Seal(text) != s {
				t.Errorf("Open(%q): %q", s, text)
			}
		default:
			if text != "" || err != api.ErrSum || check.Seal(s[:len(s)-4]) == s {
				t.Errorf("Open(%q): %q, %d", s, text, err)
			}
		}
		if got, want := check.More(sum, s), slow(sum, s); got != want {
			t.Errorf("More(%#x, %q): %#x, want %#x", sum, s, got, want)
		}
		check.Blocks(s, size)
	})
}
