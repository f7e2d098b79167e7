package pack

import (
	"bytes"
	"encoding/binary"
	"math"
	"math/big"
	"math/rand"
	"slices"
	"strings"
	"testing"

	"horologe/api"
)

// signedEdges are in rising order.
var signedEdges = []int{
	math.MinInt, math.MinInt + 1, -1 << 62, math.MinInt32 - 1, math.MinInt32, -65537, -65536, -32769, -32768,
	-257, -256, -255, -129, -128, -2, -1, 0, 1, 2, 127, 128, 255, 256, 257, 32767, 32768, 65535, 65536,
	math.MaxInt32, math.MaxInt32 + 1, math.MaxUint32, math.MaxUint32 + 1, api.MaxNumber, 1 << 62, math.MaxInt - 1, math.MaxInt,
}

// unsignedEdges are in rising order.
var unsignedEdges = []uint64{
	0, 1, 2, 127, 128, 255, 256, 257, 258, 32767, 32768, 65535, 65536, math.MaxUint32, math.MaxUint32 + 1,
	api.MaxNumber, 1<<63 - 1, 1 << 63, 1<<63 + 1, math.MaxUint64 - 1, math.MaxUint64,
}

// wildPlaces are places that no text has.
var wildPlaces = []int{math.MinInt, math.MinInt + 1, -9, -8, -3, -2, -1, math.MaxInt - 8, math.MaxInt - 7, math.MaxInt - 1, math.MaxInt}

// wantSigned works out a signed number's bytes in another way than the package does.
func wantSigned(n int) string {
	b := new(big.Int).Add(big.NewInt(int64(n)), new(big.Int).Lsh(big.NewInt(1), 63))
	return string(b.FillBytes(make([]byte, 8)))
}

func wantUnsigned(n uint64) string {
	return string(binary.BigEndian.AppendUint64(nil, n))
}

func wantCount(n int) string {
	return string([]byte{byte(n / 256), byte(n % 256)})
}

func randomInts(r *rand.Rand, n int) []int {
	l := make([]int, n)
	for i := range l {
		l[i] = int(r.Uint64() >> r.Intn(64))
		if r.Intn(2) == 0 {
			l[i] = -l[i]
		}
	}
	return l
}

func randomText(r *rand.Rand, n int) string {
	b := make([]byte, n)
	r.Read(b)
	return string(b)
}

// P1.1

func TestLaidUnsigned(t *testing.T) {
	if got := U(258); got != "\x00\x00\x00\x00\x00\x00\x01\x02" {
		t.Errorf("U(258) = %x", got)
	}
	if got := U(0); got != strings.Repeat("\x00", 8) {
		t.Errorf("U(0) = %x", got)
	}
	if got := U(math.MaxUint64); got != strings.Repeat("\xff", 8) {
		t.Errorf("U(greatest) = %x", got)
	}
	if got := U(0x0102030405060708); got != "\x01\x02\x03\x04\x05\x06\x07\x08" {
		t.Errorf("U(0x0102030405060708) = %x", got)
	}
	for _, n := range unsignedEdges {
		if got := U(n); got != wantUnsigned(n) {
			t.Errorf("U(%d) = %x", n, got)
		}
	}
}

func TestLaidSigned(t *testing.T) {
	if got := I(-1); got != "\x7f\xff\xff\xff\xff\xff\xff\xff" {
		t.Errorf("I(-1) = %x", got)
	}
	if got := I(0); got != "\x80\x00\x00\x00\x00\x00\x00\x00" {
		t.Errorf("I(0) = %x", got)
	}
	if got := I(math.MinInt); got != strings.Repeat("\x00", 8) {
		t.Errorf("I(least) = %x", got)
	}
	if got := I(math.MaxInt); got != strings.Repeat("\xff", 8) {
		t.Errorf("I(greatest) = %x", got)
	}
	for _, n := range signedEdges {
		if got := I(n); got != wantSigned(n) {
			t.Errorf("I(%d) = %x", n, got)
		}
	}
}

func TestLaidText(t *testing.T) {
	if got, e := Text("ab"); got != "\x00\x02ab" || e != api.OK {
		t.Errorf("Text(ab) = %x, %d", got, int(e))
	}
	r := rand.New(rand.NewSource(1))
	for _, n := range []int{0, 1, 2, 127, 128, 255, 256, 257, 4095, 4096} {
		for _, s := range []string{strings.Repeat("\x00", n), strings.Repeat("\xff", n), randomText(r, n)} {
			if got, e := Text(s); got != wantCount(n)+s || e != api.OK {
				t.Errorf("Text of %d bytes: %d bytes, error %d", n, len(got), int(e))
			}
		}
	}
	for _, n := range []int{4097, 4098, 65535, 65536, 65537, 65536 + 4096, 1 << 20} {
		if got, e := Text(strings.Repeat("x", n)); got != "" || e != api.ErrBig {
			t.Errorf("Text of %d bytes: %d bytes, error %d", n, len(got), int(e))
		}
	}
}

func TestLaidList(t *testing.T) {
	if got, e := List([]int{-1, 258}); got != "\x00\x02\x7f\xff\xff\xff\xff\xff\xff\xff\x80\x00\x00\x00\x00\x00\x01\x02" || e != api.OK {
		t.Errorf("List(-1, 258) = %x, %d", got, int(e))
	}
	for _, l := range [][]int{nil, {}} {
		if got, e := List(l); got != "\x00\x00" || e != api.OK {
			t.Errorf("List() = %x, %d", got, int(e))
		}
	}
	r := rand.New(rand.NewSource(2))
	lists := [][]int{signedEdges}
	for _, n := range []int{1, 2, 255, 256, 257, 511, 512} {
		lists = append(lists, randomInts(r, n))
	}
	for _, l := range lists {
		want := wantCount(len(l))
		for _, n := range l {
			want += wantSigned(n)
		}
		if got, e := List(l); got != want || e != api.OK {
			t.Errorf("List of %d: %d bytes, error %d", len(l), len(got), int(e))
		}
	}
	for _, n := range []int{513, 514, 65535, 65536, 65537, 65536 + 512} {
		if got, e := List(make([]int, n)); got != "" || e != api.ErrBig {
			t.Errorf("List of %d: %d bytes, error %d", n, len(got), int(e))
		}
	}
}

// P1.2

// checkPlace asks all four readers at one place, where the bytes ahead of it say nothing.
func checkPlace(t *testing.T, s string, at int) {
	t.Helper()
	if got, next, e := ReadU(s, at); e != numberError(s, at) || e == api.OK && (wantUnsigned(got) != s[at:at+8] || next != at+8) || e != api.OK && (got != 0 || next != 0) {
		t.Errorf("ReadU(%d bytes, %d) = %d, %d, %d", len(s), at, got, next, int(e))
	}
	if got, next, e := ReadI(s, at); e != numberError(s, at) || e == api.OK && (wantSigned(got) != s[at:at+8] || next != at+8) || e != api.OK && (got != 0 || next != 0) {
		t.Errorf("ReadI(%d bytes, %d) = %d, %d, %d", len(s), at, got, next, int(e))
	}
	many, want := countError(s, at, 4096, 1)
	if got, next, e := ReadText(s, at); e != want || e == api.OK && (got != s[at+2:at+2+many] || next != at+2+many) || e != api.OK && (got != "" || next != 0) {
		t.Errorf("ReadText(%d bytes, %d) = %d bytes, %d, %d", len(s), at, len(got), next, int(e))
	}
	many, want = countError(s, at, 512, 8)
	if got, next, e := ReadList(s, at); e != want || e == api.OK && (!isList(got, s[at+2:], many) || next != at+2+8*many) || e != api.OK && (len(got) != 0 || next != 0) {
		t.Errorf("ReadList(%d bytes, %d) = %d numbers, %d, %d", len(s), at, len(got), next, int(e))
	}
}

func numberError(s string, at int) api.Errno {
	switch {
	case at < 0 || at > len(s):
		return api.ErrRange
	case len(s[at:]) < 8:
		return api.ErrShort
	}
	return api.OK
}

func countError(s string, at, most, size int) (int, api.Errno) {
	if at < 0 || at > len(s) {
		return 0, api.ErrRange
	}
	left := s[at:]
	if len(left) < 2 {
		return 0, api.ErrShort
	}
	many := int(left[0])*256 + int(left[1])
	if many > most {
		return 0, api.ErrBig
	}
	if len(left) < 2+many*size {
		return 0, api.ErrShort
	}
	return many, api.OK
}

func isList(l []int, s string, many int) bool {
	if len(l) != many {
		return false
	}
	for i, n := range l {
		if wantSigned(n) != s[8*i:8*i+8] {
			return false
		}
	}
	return true
}

func TestReadEveryPlace(t *testing.T) {
	text, _ := Text("some text")
	list, _ := List([]int{math.MinInt, -1, 0, 7, math.MaxInt})
	r := rand.New(rand.NewSource(3))
	small := make([]byte, 400)
	for i := range small {
		small[i] = byte(r.Intn(4))
	}
	all := U(1) + I(-1) + text + list
	for _, s := range []string{"", "\x00", "\x00\x00", "\x00\x01", "1234567", "12345678", "123456789", all, all + "\x10", string(small), randomText(r, 300)} {
		for at := -10; at <= len(s)+10; at++ {
			checkPlace(t, s, at)
		}
		for _, at := range wildPlaces {
			checkPlace(t, s, at)
		}
	}
}

func TestReadEveryCount(t *testing.T) {
	body := randomText(rand.New(rand.NewSource(4)), 4096)
	for n := range 1 << 16 {
		for _, left := range []int{0, n - 1, n, n + 1, 8*n - 1, 8 * n, 8*n + 1, 4096} {
			if left >= 0 && left <= 4096 {
				checkPlace(t, wantCount(n)+body[:left], 0)
			}
		}
	}
}

func TestReadExamples(t *testing.T) {
	if n, next, e := ReadU("xy\x00\x00\x00\x00\x00\x00\x01\x02z", 2); n != 258 || next != 10 || e != api.OK {
		t.Error(n, next, int(e))
	}
	if n, next, e := ReadI("\x7f\xff\xff\xff\xff\xff\xff\xff", 0); n != -1 || next != 8 || e != api.OK {
		t.Error(n, next, int(e))
	}
	if s, next, e := ReadText("x\x00\x02abc", 1); s != "ab" || next != 5 || e != api.OK {
		t.Error(s, next, int(e))
	}
	if l, next, e := ReadList("x\x00\x01\x80\x00\x00\x00\x00\x00\x00\x05y", 1); !slices.Equal(l, []int{5}) || next != 11 || e != api.OK {
		t.Error(l, next, int(e))
	}
}

// TestReadFirstError: a length above the limit is too big even where bytes end.
func TestReadFirstError(t *testing.T) {
	rest := strings.Repeat("x", 1<<17)
	cases := []struct {
		s    string
		at   int
		text api.Errno
		list api.Errno
	}{
		{"\x10\x01", 0, api.ErrBig, api.ErrBig},
		{"\x10\x01" + rest, 0, api.ErrBig, api.ErrBig},
		{"\x10\x00", 0, api.ErrShort, api.ErrBig},
		{"\x10\x00" + rest[:4095], 0, api.ErrShort, api.ErrBig},
		{"\x10\x00" + rest[:4096], 0, api.OK, api.ErrBig},
		{"\x02\x01", 0, api.ErrShort, api.ErrBig},
		{"\x02\x01" + rest, 0, api.OK, api.ErrBig},
		{"\x02\x00", 0, api.ErrShort, api.ErrShort},
		{"\x02\x00" + rest[:4095], 0, api.OK, api.ErrShort},
		{"\x02\x00" + rest[:4096], 0, api.OK, api.OK},
		{"\xff\xff" + rest, 0, api.ErrBig, api.ErrBig},
		{"\xff", 0, api.ErrShort, api.ErrShort},
		{"\xff\xff", 1, api.ErrShort, api.ErrShort},
		{"\xff\xff", 2, api.ErrShort, api.ErrShort},
		{"\xff\xff", 3, api.ErrRange, api.ErrRange},
		{"\xff\xff", -1, api.ErrRange, api.ErrRange},
		{"", 0, api.ErrShort, api.ErrShort},
		{"", 1, api.ErrRange, api.ErrRange},
	}
	for _, c := range cases {
		if _, _, e := ReadText(c.s, c.at); e != c.text {
			t.Errorf("ReadText(%d bytes, %d): error %d, not %d", len(c.s), c.at, int(e), int(c.text))
		}
		if _, _, e := ReadList(c.s, c.at); e != c.list {
			t.Errorf("ReadList(%d bytes, %d): error %d, not %d", len(c.s), c.at, int(e), int(c.list))
		}
		checkPlace(t, c.s, c.at)
	}
}

// P1.3

// surroundings are what may stand ahead of what was laid, and behind it.
func surroundings(r *rand.Rand) [][2]string {
	return [][2]string{{"", ""}, {"\x00", "\x00"}, {"\xff\xff", "\xff\xff"}, {randomText(r, 5), ""}, {"", randomText(r, 9)}, {randomText(r, 300), randomText(r, 30)}}
}

func TestNumbersThereAndBack(t *testing.T) {
	r := rand.New(rand.NewSource(5))
	unsigned := slices.Clone(unsignedEdges)
	for range 500 {
		unsigned = append(unsigned, r.Uint64()>>r.Intn(64))
	}
	signed := append(slices.Clone(signedEdges), randomInts(r, 500)...)
	for _, x := range surroundings(r) {
		ahead, behind := x[0], x[1]
		for _, n := range unsigned {
			if got, next, e := ReadU(ahead+U(n)+behind, len(ahead)); got != n || next != len(ahead)+8 || e != api.OK {
				t.Errorf("%d came back as %d, %d, %d", n, got, next, int(e))
			}
		}
		for _, n := range signed {
			if got, next, e := ReadI(ahead+I(n)+behind, len(ahead)); got != n || next != len(ahead)+8 || e != api.OK {
				t.Errorf("%d came back as %d, %d, %d", n, got, next, int(e))
			}
		}
	}
}

func TestTextsAndListsThereAndBack(t *testing.T) {
	r := rand.New(rand.NewSource(6))
	for _, x := range surroundings(r) {
		ahead, behind := x[0], x[1]
		for _, n := range []int{0, 1, 2, 3, 255, 256, 4095, 4096} {
			s := randomText(r, n)
			b, _ := Text(s)
			if got, next, e := ReadText(ahead+b+behind, len(ahead)); got != s || next != len(ahead)+len(b) || e != api.OK {
				t.Errorf("a text of %d bytes came back as %d, %d, %d", n, len(got), next, int(e))
			}
		}
		for _, n := range []int{0, 1, 2, 3, 255, 256, 511, 512} {
			l := randomInts(r, n)
			b, _ := List(l)
			if got, next, e := ReadList(ahead+b+behind, len(ahead)); !slices.Equal(got, l) || next != len(ahead)+len(b) || e != api.OK {
				t.Errorf("a list of %d came back as %d, %d, %d", n, len(got), next, int(e))
			}
		}
	}
}

// checkLaidAgain: whatever is read at a place, of any bytes, is laid as the very bytes that stand there.
func checkLaidAgain(t *testing.T, s string, at int) {
	t.Helper()
	if n, next, e := ReadU(s, at); e == api.OK && U(n) != s[at:next] {
		t.Errorf("U(%d) is not what was read", n)
	}
	if n, next, e := ReadI(s, at); e == api.OK && I(n) != s[at:next] {
		t.Errorf("I(%d) is not what was read", n)
	}
	if x, next, e := ReadText(s, at); e == api.OK {
		if b, e := Text(x); e != api.OK || b != s[at:next] {
			t.Errorf("a text of %d bytes is not what was read", len(x))
		}
	}
	if l, next, e := ReadList(s, at); e == api.OK {
		if b, e := List(l); e != api.OK || b != s[at:next] {
			t.Errorf("a list of %d is not what was read", len(l))
		}
	}
}

func TestReadIsLaidAgain(t *testing.T) {
	r := rand.New(rand.NewSource(7))
	for range 300 {
		b := []byte(randomText(r, r.Intn(60)))
		for i := range b {
			if r.Intn(3) > 0 {
				b[i] %= 5
			}
		}
		for at := range len(b) + 1 {
			checkLaidAgain(t, string(b), at)
		}
	}
	long := randomText(r, 8*512)
	for n := range 4097 {
		checkLaidAgain(t, wantCount(n)+long, 0)
	}
}

func TestPartsBehindOneAnother(t *testing.T) {
	text, _ := Text("between")
	list, _ := List([]int{3, -3})
	s := U(9) + text + I(-9) + list
	n, at, _ := ReadU(s, 0)
	x, at, _ := ReadText(s, at)
	i, at, _ := ReadI(s, at)
	l, at, e := ReadList(s, at)
	if n != 9 || x != "between" || i != -9 || !slices.Equal(l, []int{3, -3}) || at != len(s) || e != api.OK {
		t.Error(n, x, i, l, at, int(e))
	}
}

// P1.4

func TestOrderOfBytesIsOrderOfNumbers(t *testing.T) {
	r := rand.New(rand.NewSource(8))
	unsigned := slices.Clone(unsignedEdges)
	for range 300 {
		unsigned = append(unsigned, r.Uint64()>>r.Intn(64))
	}
	slices.Sort(unsigned)
	unsigned = slices.Compact(unsigned)
	signed := append(slices.Clone(signedEdges), randomInts(r, 300)...)
	slices.Sort(signed)
	signed = slices.Compact(signed)
	checkRising(t, unsigned, U)
	checkRising(t, signed, I)
}

// checkRising holds all pairs against each other, for numbers that rise.
func checkRising[T int | uint64](t *testing.T, l []T, laid func(T) string) {
	t.Helper()
	for i := range l {
		for j := i + 1; j < len(l); j++ {
			if a, b := laid(l[i]), laid(l[j]); bytes.Compare([]byte(a), []byte(b)) >= 0 || a >= b {
				t.Errorf("%d: %x, %d: %x", l[i], a, l[j], b)
			}
		}
	}
}

// R3, R4

func TestListIsLeftAsItIs(t *testing.T) {
	whole := []int{5, -6, 7, 8, 9}
	l := whole[1:3]
	b, _ := List(l)
	if again, _ := List(l); again != b {
		t.Error("the same list was laid in two ways")
	}
	if !slices.Equal(whole, []int{5, -6, 7, 8, 9}) {
		t.Error("the list was changed:", whole)
	}
	whole[1] = 1
	if got, _, _ := ReadList(b, 0); !slices.Equal(got, []int{-6, 7}) {
		t.Error("the list was kept:", got)
	}
}

func TestAnsweredListsAreNew(t *testing.T) {
	b, _ := List([]int{1, 2, 3})
	first, _, _ := ReadList(b, 0)
	second, _, _ := ReadList(b, 0)
	first[0] = 99
	first = append(first, 100)
	if third, _, _ := ReadList(b, 0); !slices.Equal(second, []int{1, 2, 3}) || !slices.Equal(third, []int{1, 2, 3}) {
		t.Error("lists share memory:", first, second, third)
	}
}

// Every integer kind is laid by the same function, though the calls need two of them alone.
func TestLayEveryKind(t *testing.T) {
	for _, got := range []string{lay(int8(-2), 8), lay(int16(-2), 8), lay(int32(-2), 8), lay(int64(-2), 8)} {
		if got != wantSigned(-2) {
			t.Errorf("%x", got)
		}
	}
	for _, got := range []string{lay(uint8(200), 8), lay(uint16(200), 8), lay(uint32(200), 8), lay(uint(200), 8)} {
		if got != wantUnsigned(200) {
			t.Errorf("%x", got)
		}
	}
}
