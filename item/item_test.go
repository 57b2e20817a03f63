package item_test

import (
	"encoding/binary"
	"math"
	"math/rand"
	"slices"
	"strings"
	"testing"

	"fingerpost/api"
	"fingerpost/item"
)

const (
	farthest = 983040 // 15 times MaxCost
	far      = math.MaxUint32
)

// places are nodes, and numbers that are none, some of which have a node, or that of no node, in their lowest byte.
var places = []int{-257, -256, -241, -17, -16, -2, -1, 0, 1, 2, 7, 8, 14, 15, 16, 17, 127, 128, 254, 255, 256, 257, 271, 511, 1<<32 - 1, 1 << 32, 1<<32 + 3, math.MinInt, math.MinInt + 1, math.MaxInt}

// sorts are kinds, and numbers that are none, some of which are one in their lowest bits.
var sorts = []int{-256, -16, -14, -2, -1, 0, 1, 2, 3, 4, 15, 16, 17, 256, 1 << 32, math.MinInt, math.MaxInt}

// dists are those at which a distance's meaning changes, or its bytes.
var dists = []uint32{0, 1, 2, 255, 256, 65535, 65536, 65537, farthest - 1, farthest, farthest + 1, 16 * 65536, 16711680, 0x01020304, 1<<31 - 1, 1 << 31, far - 1, far}

// told is an item of its four numbers.
func told(dest, kind int, dist uint32, pred int) api.Item {
	return api.Item{Dest: dest, Kind: kind, Dist: dist, Pred: pred}
}

// items are some of each destination, kind, distance and node ahead, right ones and others.
func items() []api.Item {
	var l []api.Item
	for _, dest := range places {
		for _, kind := range sorts {
			for _, dist := range dists {
				for _, pred := range places {
					l = append(l, told(dest, kind, dist, pred))
				}
			}
		}
	}
	return l
}

// rights are all right ones of those of the distances dists.
func rights() []api.Item {
	var l []api.Item
	for dest := range 16 {
		for kind := range 3 {
			for _, dist := range dists {
				for pred := -1; pred < 16; pred++ {
					if x := told(dest, kind, dist, pred); right(x) {
						l = append(l, x)
					}
				}
			}
		}
	}
	return l
}

// right tells by the chapter's words whether x is right.
func right(x api.Item) bool {
	if x.Dest < 0 || x.Dest > 15 || x.Kind != 0 && x.Kind != 1 && x.Kind != 2 {
		return false
	}
	if x.Dist == 0 || x.Dist == far {
		return x.Pred == -1
	}
	return x.Pred >= 0 && x.Pred <= 15 && x.Pred != x.Dest && x.Dist <= farthest
}

// written is x in bytes, the highest byte of the distance first.
func written(x api.Item) string {
	b := binary.BigEndian.AppendUint32([]byte{byte(16*x.Dest + x.Kind)}, x.Dist)
	return string(append(b, byte(x.Pred)))
}

// picked are so many items of from, by chance, and their bytes.
func picked(r *rand.Rand, from []api.Item, many int) ([]api.Item, string) {
	var l []api.Item
	var s strings.Builder
	for range many {
		x := from[r.Intn(len(from))]
		l = append(l, x)
		s.WriteString(written(x))
	}
	return l, s.String()
}

// some are so many right items, the same ones each time, and their bytes.
func some(many int) ([]api.Item, string) {
	return picked(rand.New(rand.NewSource(int64(many))), rights(), many)
}

func TestFar(t *testing.T) { // P7.1
	if got, want := item.Far(7, api.ItemAsk), (api.Item{Dest: 7, Kind: 1, Dist: far, Pred: -1}); got != want {
		t.Errorf("Far(7, 1): %v", got)
	}
	for _, dest := range places {
		for _, kind := range sorts {
			got := item.Far(dest, kind)
			if got != told(dest, kind, 1<<32-1, -1) {
				t.Errorf("Far(%d, %d): %v", dest, kind, got)
			}
			if fine := dest >= 0 && dest < 16 && kind >= 0 && kind < 3; item.Right(got) != fine {
				t.Errorf("Right(Far(%d, %d)): %t", dest, kind, !fine)
			}
		}
	}
}

func TestRight(t *testing.T) { // P7.2
	for _, c := range []struct {
		x    api.Item
		want bool
	}{
		{api.Item{}, false},
		{told(0, 0, 0, -1), true},
		{told(15, 2, 0, -1), true},
		{told(3, 1, far, -1), true},
		{told(3, 0, 0, 2), false},
		{told(3, 0, 0, 3), false},
		{told(3, 0, 0, 255), false},
		{told(3, 0, far, 2), false},
		{told(3, 0, far, 3), false},
		{told(3, 0, far, -2), false},
		{told(3, 0, 1, 2), true},
		{told(3, 0, 1, 0), true},
		{told(3, 0, 1, 15), true},
		{told(3, 0, 1, -1), false},
		{told(3, 0, 1, -2), false},
		{told(3, 0, 1, 16), false},
		{told(3, 0, 1, 255), false},
		{told(3, 0, 1, 3), false},
		{told(0, 0, 1, 0), false},
		{told(15, 0, 1, 15), false},
		{told(3, 2, 15*api.MaxCost, 2), true},
		{told(3, 2, 15*api.MaxCost+1, 2), false},
		{told(3, 2, 16*api.MaxCost, 2), false},
		{told(3, 2, far-1, 2), false},
		{told(3, 2, far-1, -1), false},
		{told(3, 2, 15*api.MaxCost, -1), false},
		{told(3, 3, 1, 2), false},
		{told(3, -1, 1, 2), false},
		{told(3, 16, 0, -1), false},
		{told(3, 3, far, -1), false},
		{told(16, 0, 1, 2), false},
		{told(-1, 0, 1, 2), false},
		{told(16, 0, 0, -1), false},
		{told(-1, 0, far, -1), false},
		{told(math.MinInt, 0, 0, -1), false},
		{told(math.MaxInt, math.MaxInt, far, math.MaxInt), false},
	} {
		if got := item.Right(c.x); got != c.want {
			t.Errorf("Right(%v): %t", c.x, got)
		}
	}
	for _, x := range items() {
		if got := item.Right(x); got != right(x) {
			t.Fatalf("Right(%v): %t", x, got)
		}
	}
}

func TestRightOfEachDistance(t *testing.T) { // P7.2
	for dist := uint32(1); dist < farthest+1000; dist++ {
		if got, want := item.Right(told(4, 1, dist, 9)), dist <= farthest; got != want {
			t.Fatalf("Right of %d: %t", dist, got)
		}
		if item.Right(told(4, 1, dist, -1)) {
			t.Fatalf("Right of %d with nobody ahead", dist)
		}
	}
}

func TestBytes(t *testing.T) { // P7.3
	for _, c := range []struct {
		x    api.Item
		want string
		err  api.Errno
	}{
		{told(0, 0, 0, -1), "\x00\x00\x00\x00\x00\xff", api.OK},
		{told(15, 2, 0, -1), "\xf2\x00\x00\x00\x00\xff", api.OK},
		{told(1, 1, far, -1), "\x11\xff\xff\xff\xff\xff", api.OK},
		{told(7, 0, 0x00010203, 0), "\x70\x00\x01\x02\x03\x00", api.OK},
		{told(7, 2, farthest, 15), "\x72\x00\x0f\x00\x00\x0f", api.OK},
		{told(0, 1, 1, 9), "\x01\x00\x00\x00\x01\x09", api.OK},
		{api.Item{}, "", api.ErrArg},
		{told(7, 2, farthest+1, 15), "", api.ErrArg},
		{told(7, 2, 5, 7), "", api.ErrArg},
		{told(7, 2, 5, -1), "", api.ErrArg},
		{told(7, 2, 5, 255), "", api.ErrArg},
		{told(7, 2, 5, 256), "", api.ErrArg},
		{told(7, 2, 0, 255), "", api.ErrArg},
		{told(7, 2, far, 4), "", api.ErrArg},
		{told(7, 3, 5, 4), "", api.ErrArg},
		{told(7, -1, 5, 4), "", api.ErrArg},
		{told(16, 0, 5, 4), "", api.ErrArg},
		{told(-1, 0, 5, 4), "", api.ErrArg},
	} {
		if got, err := item.Bytes(c.x); got != c.want || err != c.err {
			t.Errorf("Bytes(%v): %q, %d, want %q, %d", c.x, got, err, c.want, c.err)
		}
	}
	for _, x := range items() {
		want, wrong := "", api.ErrArg
		if right(x) {
			want, wrong = written(x), api.OK
		}
		if got, err := item.Bytes(x); got != want || err != wrong {
			t.Fatalf("Bytes(%v): %q, %d, want %q, %d", x, got, err, want, wrong)
		}
	}
}

func TestRead(t *testing.T) { // P7.4
	for _, c := range []struct {
		s    string
		want api.Item
		rest string
		err  api.Errno
	}{
		{"", api.Item{}, "", api.ErrShort},
		{"\x00", api.Item{}, "", api.ErrShort},
		{"\x00\x00\x00\x00\x00", api.Item{}, "", api.ErrShort},
		{"\xff\xff\xff\xff\xff", api.Item{}, "", api.ErrShort},
		{"\x00\x00\x00\x00\x00\xff", told(0, 0, 0, -1), "", api.OK},
		{"\xf2\x00\x00\x00\x00\xffx", told(15, 2, 0, -1), "x", api.OK},
		{"\x11\xff\xff\xff\xff\xff\xff\xff", told(1, 1, far, -1), "\xff\xff", api.OK},
		{"\x70\x00\x01\x02\x03\x00\x00", told(7, 0, 0x00010203, 0), "\x00", api.OK},
		{"\x72\x00\x0f\x00\x00\x0f", told(7, 2, farthest, 15), "", api.OK},
		{"\x00\x00\x00\x00\x00\x00", api.Item{}, "", api.ErrForm},
		{"\x00\x00\x00\x00\x00\xfe", api.Item{}, "", api.ErrForm},
		{"\x00\xff\xff\xff\xff\x01", api.Item{}, "", api.ErrForm},
		{"\x00\xff\xff\xff\xfe\xff", api.Item{}, "", api.ErrForm},
		{"\x00\xff\xff\xff\xfe\x01", api.Item{}, "", api.ErrForm},
		{"\x72\x00\x0f\x00\x01\x0f", api.Item{}, "", api.ErrForm},
		{"\x72\x00\x00\x00\x05\x07", api.Item{}, "", api.ErrForm},
		{"\x72\x00\x00\x00\x05\x10", api.Item{}, "", api.ErrForm},
		{"\x72\x00\x00\x00\x05\x80", api.Item{}, "", api.ErrForm},
		{"\x72\x00\x00\x00\x05\xff", api.Item{}, "", api.ErrForm},
		{"\x73\x00\x00\x00\x05\x01", api.Item{}, "", api.ErrForm},
		{"\x7f\x00\x00\x00\x05\x01rest", api.Item{}, "", api.ErrForm},
	} {
		got, rest, err := item.Read(c.s)
		if got != c.want || rest != c.rest || err != c.err {
			t.Errorf("Read(%q): %v, %q, %d, want %v, %q, %d", c.s, got, rest, err, c.want, c.rest, c.err)
		}
	}
}

func TestReadOfEachHeadAndPred(t *testing.T) { // P7.4
	for head := range 256 {
		for pred := range 256 {
			for _, dist := range dists {
				x := told(head/16, head%16, dist, pred)
				if pred == 255 {
					x.Pred = -1
				}
				s := string([]byte{byte(head), byte(dist >> 24), byte(dist >> 16), byte(dist >> 8), byte(dist), byte(pred)})
				want, left, wrong := api.Item{}, "", api.ErrForm
				if right(x) {
					want, left, wrong = x, "\x00z", api.OK
				}
				if got, rest, err := item.Read(s + "\x00z"); got != want || rest != left || err != wrong {
					t.Fatalf("Read(%q): %v, %q, %d, want %v, %d", s, got, rest, err, want, wrong)
				}
			}
		}
	}
}

func TestReadOfEachLength(t *testing.T) { // P7.4
	for _, long := range []string{written(told(3, 0, 5, 2)) + written(told(3, 0, 5, 2)), strings.Repeat("\xff", 12)} {
		for n := range 6 {
			if got, rest, err := item.Read(long[:n]); got != (api.Item{}) || rest != "" || err != api.ErrShort {
				t.Errorf("Read(%q): %v, %q, %d", long[:n], got, rest, err)
			}
		}
	}
	for n := range 300 {
		tail := strings.Repeat("q", n)
		if got, rest, err := item.Read(written(told(3, 0, 5, 2)) + tail); got != told(3, 0, 5, 2) || rest != tail || err != api.OK {
			t.Errorf("Read with %d bytes behind: %v, %q, %d", n, got, rest, err)
		}
	}
}

func TestAll(t *testing.T) { // P7.5
	for many := range 60 {
		l, want := some(many)
		wrong := api.OK
		if many > 48 {
			want, wrong = "", api.ErrLong
		}
		if got, err := item.All(l); got != want || err != wrong {
			t.Errorf("All of %d: %q, %d", many, got, err)
		}
	}
	for _, l := range [][]api.Item{nil, {}} {
		if got, err := item.All(l); got != "" || err != api.OK {
			t.Errorf("All of none: %q, %d", got, err)
		}
	}
}

func TestAllOfWrongOnes(t *testing.T) { // P7.5
	for many := 1; many < 60; many++ {
		fine, _ := some(many)
		for at := range many {
			l := slices.Clone(fine)
			l[at].Kind = 3
			want := api.ErrArg
			// The 49th that is right is one too many before one behind it is wrong.
			if at > 48 {
				want = api.ErrLong
			}
			if got, err := item.All(l); got != "" || err != want {
				t.Errorf("All of %d, the one at %d being wrong: %q, %d, want %d", many, at, got, err, want)
			}
		}
	}
	if got, err := item.All(make([]api.Item, 1<<16)); got != "" || err != api.ErrArg {
		t.Errorf("All of many wrong ones: %q, %d", got, err)
	}
}

func TestAllKeepsWhatIsHandedIn(t *testing.T) { // P7.5, R3
	l, _ := some(60)
	before := slices.Clone(l)
	for n := range len(l) {
		item.All(l[:n])
		if !slices.Equal(l, before) {
			t.Fatalf("All of %d changed what was handed in", n)
		}
	}
}

func TestUnall(t *testing.T) { // P7.6
	for many := range 60 {
		want, s := some(many)
		wrong := api.OK
		if many > 48 {
			want, wrong = nil, api.ErrLong
		}
		if got, err := item.Unall(s); !slices.Equal(got, want) || err != wrong {
			t.Errorf("Unall of %d: %v, %d", many, got, err)
		}
	}
}

func TestUnallOfWrongOnes(t *testing.T) { // P7.6
	for many := 1; many < 60; many++ {
		_, s := some(many)
		for at := range many {
			want := api.ErrForm
			// The 49th that is right is one too many before one behind it is wrong.
			if at > 48 {
				want = api.ErrLong
			}
			if got, err := item.Unall(s[:6*at] + "\x0f" + s[6*at+1:]); len(got) != 0 || err != want {
				t.Errorf("Unall of %d, the one at %d being wrong: %v, %d, want %d", many, at, got, err, want)
			}
		}
	}
}

func TestUnallOfEachLength(t *testing.T) { // P7.6
	_, s := some(60)
	for n := range len(s) + 1 {
		want := api.OK
		switch {
		case n >= 6*49: // the 49th is whole, and so one too many
			want = api.ErrLong
		case n%6 != 0:
			want = api.ErrShort
		}
		got, err := item.Unall(s[:n])
		if err != want || err != api.OK && len(got) != 0 || err == api.OK && len(got) != n/6 {
			t.Errorf("Unall of %d bytes: %v, %d, want %d", n, got, err, want)
		}
	}
	// What is wrong is told of the first that is, not of what ends too soon behind it.
	if got, err := item.Unall("\x0f" + s[1:6] + s[:3]); len(got) != 0 || err != api.ErrForm {
		t.Errorf("Unall of a wrong one ahead of a short one: %v, %d", got, err)
	}
}

func TestUnallAnswersNewMemory(t *testing.T) { // P7.6, R3
	want, s := some(20)
	first, _ := item.Unall(s)
	second, _ := item.Unall(s)
	clear(first)
	_ = append(first[:10], told(1, 1, 1, 2))
	if !slices.Equal(second, want) {
		t.Errorf("Unall(%q): %v, want %v", s, second, want)
	}
}

func TestWrittenIsRead(t *testing.T) { // P7.7
	for _, x := range rights() {
		s, err := item.Bytes(x)
		if len(s) != 6 || err != api.OK {
			t.Fatalf("Bytes(%v): %q, %d", x, s, err)
		}
		if got, rest, err := item.Read(s + "behind"); got != x || rest != "behind" || err != api.OK {
			t.Fatalf("Read(Bytes(%v)): %v, %q, %d", x, got, rest, err)
		}
	}
	for many := range 49 {
		l, _ := some(many)
		s, err := item.All(l)
		if len(s) != 6*many || err != api.OK {
			t.Fatalf("All of %d: %q, %d", many, s, err)
		}
		if got, err := item.Unall(s); !slices.Equal(got, l) || err != api.OK {
			t.Fatalf("Unall(All(%v)): %v, %d", l, got, err)
		}
	}
}

func TestReadIsWritten(t *testing.T) { // P7.7
	r := rand.New(rand.NewSource(7))
	all := rights()
	for range 20000 {
		_, s := picked(r, all, r.Intn(3))
		b := []byte(s)
		for range r.Intn(4) {
			b = append(b, byte(r.Intn(256)))
		}
		if len(b) > 0 && r.Intn(2) == 0 {
			b[r.Intn(len(b))] = byte(r.Intn(256))
		}
		readIsWritten(t, string(b))
	}
}

// readIsWritten looks whether the one item, and all, of s are written so again, where they are read.
func readIsWritten(t *testing.T, s string) {
	t.Helper()
	x, rest, err := item.Read(s)
	if err == api.OK {
		if again, err := item.Bytes(x); again+rest != s || err != api.OK {
			t.Fatalf("Bytes(Read(%q)): %q, %d", s, again, err)
		}
	} else if x != (api.Item{}) || rest != "" || (err == api.ErrShort) != (len(s) < 6) {
		t.Fatalf("Read(%q): %v, %q, %d", s, x, rest, err)
	}
	l, err := item.Unall(s)
	if err == api.OK {
		if again, err := item.All(l); again != s || err != api.OK {
			t.Fatalf("All(Unall(%q)): %q, %d", s, again, err)
		}
	} else if len(l) != 0 {
		t.Fatalf("Unall(%q): %v, %d", s, l, err)
	}
}

func FuzzItem(f *testing.F) {
	_, all := some(48)
	_, more := some(50)
	for _, s := range []string{"", "x", all, more, all + "\x00", written(told(7, 2, 5, 1)), written(told(7, 1, far, -1)) + written(told(7, 0, 0, -1))} {
		f.Add(s, 7, 1, uint32(5), 2)
	}
	f.Add("", 7, 3, uint32(far), -1)
	f.Fuzz(func(t *testing.T, s string, dest, kind int, dist uint32, pred int) {
		readIsWritten(t, s)
		x := told(dest, kind, dist, pred)
		if item.Right(x) != right(x) {
			t.Fatalf("Right(%v): %t", x, item.Right(x))
		}
		if text, err := item.Bytes(x); (err == api.OK) != right(x) || err == api.OK && text != written(x) {
			t.Fatalf("Bytes(%v): %q, %d", x, text, err)
		}
	})
}
