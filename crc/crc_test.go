package crc

import (
	"encoding/binary"
	"hash/crc32"
	"math"
	"math/rand"
	"strings"
	"testing"

	"horologe/api"
)

// wantSum works out a check in another way than the package does.
func wantSum(s string) uint32 {
	return crc32.Checksum([]byte(s), crc32.MakeTable(crc32.Castagnoli))
}

func wantMore(sum uint32, s string) uint32 {
	return crc32.Update(sum, crc32.MakeTable(crc32.Castagnoli), []byte(s))
}

func wantLaid(s string) string {
	return string(binary.LittleEndian.AppendUint32(nil, wantSum(s))) + s
}

func randomText(r *rand.Rand, n int) string {
	b := make([]byte, n)
	r.Read(b)
	return string(b)
}

// everyByte is each byte once, from 00 to ff.
func everyByte() string {
	b := make([]byte, 256)
	for i := range b {
		b[i] = byte(i)
	}
	return string(b)
}

// someTexts are of every small length, and of some greater ones: zeros, ones, and any bytes.
func someTexts(r *rand.Rand) []string {
	l := []string{"123456789", everyByte(), "\u00e9\u20ac\U0001f600", "\xff\xfe\x80", "\xe2\x82"}
	lengths := []int{63, 64, 65, 228, 232, 252, 255, 256, 257, 1024, 4096}
	for n := range 40 {
		lengths = append(lengths, n)
	}
	for _, n := range lengths {
		l = append(l, strings.Repeat("\x00", n), strings.Repeat("\xff", n), randomText(r, n))
	}
	return l
}

func turnBit(s string, bit int) string {
	b := []byte(s)
	b[bit/8] ^= 1 << (bit % 8)
	return string(b)
}

// P3.1

func TestSumExamples(t *testing.T) {
	falling := []byte(everyByte()[:32])
	for i := range falling {
		falling[i] = byte(31 - i)
	}
	cases := []struct {
		s    string
		want uint32
	}{
		{"123456789", 0xe3069283},
		{"", 0},
		{"\x00", 0x527d5351},
		{"\xff", 0xff000000},
		{"a", 0xc1d04330},
		{strings.Repeat("\x00", 32), 0x8a9136aa},
		{strings.Repeat("\xff", 32), 0x62a8ab43},
		{everyByte()[:32], 0x46dd794e},
		{string(falling), 0x113fdb5c},
		{"\xff\xff\xff\xff", 0xffffffff},
	}
	for _, c := range cases {
		if got := Sum(c.s); got != c.want {
			t.Errorf("Sum(%x) = %08x, not %08x", c.s, got, c.want)
		}
	}
}

func TestSumOfEveryByte(t *testing.T) {
	for i := range 256 {
		for _, s := range []string{string([]byte{byte(i)}), string([]byte{0, byte(i)}), string([]byte{byte(i), 0xff}), strings.Repeat(string([]byte{byte(i)}), 9)} {
			if got := Sum(s); got != wantSum(s) {
				t.Errorf("Sum(%x) = %08x, not %08x", s, got, wantSum(s))
			}
		}
	}
}

func TestSumOfSomeTexts(t *testing.T) {
	for _, s := range someTexts(rand.New(rand.NewSource(1))) {
		if got := Sum(s); got != wantSum(s) {
			t.Errorf("Sum of %d bytes = %08x, not %08x", len(s), got, wantSum(s))
		}
	}
}

func TestMore(t *testing.T) {
	if got := More(Sum("1234"), "56789"); got != 0xe3069283 {
		t.Errorf("More = %08x", got)
	}
	r := rand.New(rand.NewSource(2))
	sums := []uint32{0, 1, 0x7fffffff, 0x80000000, 0x82f63b78, math.MaxUint32 - 1, math.MaxUint32}
	for range 20 {
		sums = append(sums, r.Uint32())
	}
	for _, s := range someTexts(r) {
		for _, sum := range sums {
			if got := More(sum, s); got != wantMore(sum, s) {
				t.Errorf("More(%08x, %d bytes) = %08x, not %08x", sum, len(s), got, wantMore(sum, s))
			}
		}
	}
}

func TestMoreOfNothing(t *testing.T) {
	r := rand.New(rand.NewSource(3))
	for range 100 {
		if sum := r.Uint32(); More(sum, "") != sum {
			t.Errorf("More(%08x, nothing) = %08x", sum, More(sum, ""))
		}
	}
}

// P3.2

func TestLay(t *testing.T) {
	cases := []struct{ s, want string }{
		{"123456789", "\x83\x92\x06\xe3123456789"},
		{"", "\x00\x00\x00\x00"},
		{"\x00", "\x51\x53\x7d\x52\x00"},
		{"\xff", "\x00\x00\x00\xff\xff"},
	}
	for _, c := range cases {
		if got := Lay(c.s); got != c.want {
			t.Errorf("Lay(%x) = %x, not %x", c.s, got, c.want)
		}
	}
	for _, s := range someTexts(rand.New(rand.NewSource(4))) {
		if got := Lay(s); got != wantLaid(s) {
			t.Errorf("Lay of %d bytes = %x, not %x", len(s), got, wantLaid(s))
		}
	}
}

func TestCutWhatWasLaid(t *testing.T) {
	for _, s := range someTexts(rand.New(rand.NewSource(5))) {
		if got, e := Cut(wantLaid(s)); got != s || e != api.OK {
			t.Errorf("Cut of %d bytes, laid: %x, error %d", len(s), got, int(e))
		}
		if got, e := Cut(Lay(Lay(s))); got != Lay(s) || e != api.OK {
			t.Errorf("Cut of %d bytes, laid twice: %x, error %d", len(s), got, int(e))
		}
	}
}

func checkRefused(t *testing.T, s string, want api.Errno) {
	t.Helper()
	if got, e := Cut(s); got != "" || e != want {
		t.Errorf("Cut(%x) = %x, error %d, not %d", s, got, int(e), int(want))
	}
}

func TestCutOfTooFew(t *testing.T) {
	r := rand.New(rand.NewSource(6))
	for n := range 4 {
		for _, s := range []string{strings.Repeat("\x00", n), strings.Repeat("\xff", n), "abc"[:n], Lay("abc")[:n], randomText(r, n)} {
			checkRefused(t, s, api.ErrShort)
		}
	}
}

// TestCutOfJustFour: of no bytes the check is 0, and no other.
func TestCutOfJustFour(t *testing.T) {
	if got, e := Cut("\x00\x00\x00\x00"); got != "" || e != api.OK {
		t.Errorf("Cut of four zeros = %x, error %d", got, int(e))
	}
	for place := range 4 {
		for i := 1; i < 256; i++ {
			b := make([]byte, 4)
			b[place] = byte(i)
			checkRefused(t, string(b), api.ErrCorrupt)
		}
	}
	checkRefused(t, "\xff\xff\xff\xff", api.ErrCorrupt)
}

func TestCutOfWrongBytes(t *testing.T) {
	for _, s := range []string{
		"abcde",
		"\xe3\x06\x92\x83123456789", // the highest byte first
		"123456789\x83\x92\x06\xe3", // the check behind
		"\x7c\x6d\xf9\x1c123456789", // the bits not turned
		"\x83\x92\x06\xe3",
		"\x83\x92\x06\xe312345678",
		"\x83\x92\x06\xe31234567890",
		"\x83\x92\x06\xe3123456798",
		"\x83\x92\x06\xe3\x83\x92\x06\xe3123456789",
		"\x00\x00\x00\x00\x00",
		"\x00\x00\x00\x00" + everyByte(),
	} {
		checkRefused(t, s, api.ErrCorrupt)
	}
	r := rand.New(rand.NewSource(7))
	for n := 4; n < 200; n++ {
		if s := randomText(r, n); s != wantLaid(s[4:]) {
			checkRefused(t, s, api.ErrCorrupt)
		}
	}
}

func TestCutOfLaidBytesThatEnd(t *testing.T) {
	laid := Lay(everyByte())
	for n := range len(laid) {
		if n < 4 {
			checkRefused(t, laid[:n], api.ErrShort)
		} else {
			checkRefused(t, laid[:n], api.ErrCorrupt)
		}
	}
}

// P3.3

func TestTwoPieces(t *testing.T) {
	r := rand.New(rand.NewSource(8))
	for _, s := range []string{"123456789", everyByte(), strings.Repeat("\x00", 100), randomText(r, 300)} {
		for at := range len(s) + 1 {
			if got := More(Sum(s[:at]), s[at:]); got != Sum(s) {
				t.Errorf("%d bytes, parted at %d: %08x, not %08x", len(s), at, got, Sum(s))
			}
		}
	}
}

func TestPiecesOfEveryLength(t *testing.T) {
	s := randomText(rand.New(rand.NewSource(9)), 257)
	for length := 1; length <= len(s)+1; length++ {
		sum := Sum("")
		for at := 0; at < len(s); at += length {
			sum = More(sum, s[at:min(at+length, len(s))])
		}
		if sum != wantSum(s) {
			t.Errorf("pieces of %d bytes: %08x, not %08x", length, sum, wantSum(s))
		}
	}
}

func TestAnyPieces(t *testing.T) {
	r := rand.New(rand.NewSource(10))
	for range 300 {
		s := randomText(r, r.Intn(200))
		sum, at := Sum(""), 0
		for at < len(s) {
			// Pieces without a byte come, too.
			next := at + r.Intn(min(20, len(s)-at)+1)
			sum = More(sum, s[at:next])
			at = next
		}
		if sum != wantSum(s) {
			t.Errorf("%x in pieces: %08x, not %08x", s, sum, wantSum(s))
		}
	}
}

// P3.4

func TestOneBit(t *testing.T) {
	r := rand.New(rand.NewSource(11))
	for _, s := range someTexts(r) {
		if len(s) > 300 {
			continue
		}
		sum, laid := Sum(s), Lay(s)
		for bit := range 8 * len(s) {
			if Sum(turnBit(s, bit)) == sum {
				t.Errorf("%x, bit %d turned: the same check", s, bit)
			}
		}
		laidSum := Sum(laid)
		for bit := range 8 * len(laid) {
			turned := turnBit(laid, bit)
			checkRefused(t, turned, api.ErrCorrupt)
			if Sum(turned) == laidSum {
				t.Errorf("%x, bit %d turned: the same check", laid, bit)
			}
		}
	}
}

// R4

func TestSameAnswersAgain(t *testing.T) {
	for _, s := range someTexts(rand.New(rand.NewSource(13))) {
		sum, laid := Sum(s), Lay(s)
		a, e := Cut(laid)
		b, f := Cut(laid)
		if sum != Sum(s) || laid != Lay(s) || a != b || e != f {
			t.Errorf("%d bytes were answered in two ways", len(s))
		}
	}
}
