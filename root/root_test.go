package root

import (
	"encoding/binary"
	"fmt"
	"hash/crc32"
	"math"
	"math/rand"
	"slices"
	"strings"
	"testing"

	"horologe/api"
)

var (
	goodEpochs  = []int{1, 2, 255, 256, 258, 1<<16 - 1, 1 << 16, math.MaxUint32, 1 << 32, 1<<40 - 1, 1 << 40}
	badEpochs   = []int{0, -1, -2, -1 << 40, 1<<40 + 1, 1<<40 + 2, 1 << 41, math.MaxInt - 1, math.MaxInt, math.MinInt, math.MinInt + 1}
	logicals    = []int{0, 1, 2, 115, 116, 117, 118, 231, 232, 233, 347, 348, 349, 463, 464, 465, 511, 512}
	badLogicals = []int{-1, -2, -116, -117, 513, 514, 580, 581, 1 << 16, 1 << 32, 1<<32 + 1, math.MaxInt, math.MinInt}
	goodPages   = []int{0, 1, 2, 255, 256, 257, 511, 1022, 1023}
	badPages    = []int{-1, -2, 1024, 1025, 1 << 16, 1<<16 + 1, 1 << 32, 1<<32 + 1, math.MaxInt, math.MinInt}
)

// partsOf tells how many parts so many logical pages need, counted one page behind the other.
func partsOf(logical int) int {
	n := 0
	for i := range max(logical, 0) {
		if i%116 == 0 {
			n++
		}
	}
	return n
}

// checked puts the check ahead of bytes, in another way than the program does.
func checked(s string) string {
	sum := crc32.Checksum([]byte(s), crc32.MakeTable(crc32.Castagnoli))
	return string(binary.LittleEndian.AppendUint32(nil, sum)) + s
}

func epochText(n int) string {
	return string(binary.BigEndian.AppendUint64(nil, uint64(n)+1<<63))
}

// numbers are laid as two bytes each, the higher first.
func numbers(l ...int) string {
	var b []byte
	for _, n := range l {
		b = binary.BigEndian.AppendUint16(b, uint16(n))
	}
	return string(b)
}

// slot is a slot's text with a right check, whatever it says: its epochs, its body's beginning (bytes 0 behind it).
func slot(epoch int, body string, again int) string {
	return epochText(epoch) + checked(body+strings.Repeat("\x00", 44-len(body))) + epochText(again)
}

// slotOf is the text of a root, whether it may be or not.
func slotOf(r Root) string {
	return slot(r.Epoch, numbers(append([]int{r.Logical, len(r.Parts)}, r.Parts...)...), r.Epoch)
}

// mayBe is what the document says of a root that may be.
func mayBe(r Root) bool {
	seen := map[int]bool{}
	for _, p := range r.Parts {
		if p < 0 || p > 1023 {
			return false
		}
		seen[p] = true
	}
	return r.Logical >= 0 && r.Logical <= 512 && len(r.Parts) == partsOf(r.Logical) && len(seen) == len(r.Parts)
}

func wantPut(r Root) (string, api.Errno) {
	if r.Epoch < 1 || r.Epoch > 1<<40 || !mayBe(r) {
		return "", api.ErrArg
	}
	return slotOf(r), api.OK
}

func wantGet(s string) (Root, bool) {
	if len(s) != 64 || s[:8] != s[56:] || s[8:56] != checked(s[12:56]) {
		return Root{}, false
	}
	b := []byte(s)
	n := func(at int) int { return int(binary.BigEndian.Uint16(b[at:])) }
	r := Root{Epoch: int(binary.BigEndian.Uint64(b) - 1<<63), Logical: n(12)}
	if n(14) > 5 {
		return Root{}, false
	}
	for i := range n(14) {
		r.Parts = append(r.Parts, n(16+2*i))
	}
	if r.Epoch < 1 || r.Epoch > 1<<40 || !mayBe(r) {
		return Root{}, false
	}
	return r, true
}

func same(a, b Root) bool {
	return a.Epoch == b.Epoch && a.Logical == b.Logical && slices.Equal(a.Parts, b.Parts)
}

func put(t *testing.T, r Root) string {
	t.Helper()
	s, e := Put(r)
	if e != api.OK || len(s) != 64 {
		t.Fatal("Put", r, len(s), int(e))
	}
	return s
}

func putsNone(t *testing.T, r Root) {
	t.Helper()
	if s, e := Put(r); s != "" || e != api.ErrArg {
		t.Errorf("Put(%v) = %d bytes, %d", r, len(s), int(e))
	}
}

func gets(t *testing.T, s string, want Root) {
	t.Helper()
	if r, is := Get(s); !is || !same(r, want) {
		t.Errorf("Get(%x) = %v, %v, not %v", s, r, is, want)
	}
}

func getsNone(t *testing.T, s string) {
	t.Helper()
	if r, is := Get(s); is || r.Parts != nil || !same(r, Root{}) {
		t.Errorf("Get(%x) = %v, %v", s, r, is)
	}
}

func newer(t *testing.T, a, b string, want Root, place int) {
	t.Helper()
	if r, i, is := Newer(a, b); r.Parts == nil && want.Parts != nil || !same(r, want) || i != place || is != (place >= 0) {
		t.Errorf("Newer(%x, %x) = %v, %d, %v, not %v, %d", a, b, r, i, is, want, place)
	}
}

// rootOn is a root of so many logical pages, with as many parts as these need, on pages that hang on from.
func rootOn(epoch, logical, from int) Root {
	r := Root{Epoch: epoch, Logical: logical, Parts: []int{}}
	for i := range partsOf(logical) {
		r.Parts = append(r.Parts, (goodPages[from%len(goodPages)]+i*i*37)%1024)
	}
	return r
}

// goodRoots are roots of every good epoch and many logical pages.
func goodRoots() []Root {
	var l []Root
	for i, epoch := range goodEpochs {
		for j, logical := range logicals {
			l = append(l, rootOn(epoch, logical, i+j))
		}
	}
	return l
}

func randomRoot(r *rand.Rand) Root {
	logical := r.Intn(513)
	return Root{Epoch: 1 + r.Intn(1<<uint(r.Intn(41))), Logical: logical, Parts: r.Perm(1024)[:partsOf(logical)]}
}

// with is a root with other parts.
func with(r Root, parts ...int) Root {
	r.Parts = parts
	return r
}

// changedPart is a root one of whose parts is on another page.
func changedPart(r Root, i, page int) Root {
	r.Parts = slices.Clone(r.Parts)
	r.Parts[i] = page
	return r
}

// P13.1

func TestPutBytes(t *testing.T) {
	s := put(t, Root{Epoch: 258, Logical: 511, Parts: []int{1023, 0, 256, 7, 1}})
	body := "\x01\xff\x00\x05\x03\xff\x00\x00\x01\x00\x00\x07\x00\x01" + strings.Repeat("\x00", 30)
	epoch := "\x80\x00\x00\x00\x00\x00\x01\x02"
	if s[:8] != epoch || s[12:56] != body || s[56:] != epoch {
		t.Errorf("%x", s)
	}
	sum := crc32.Checksum([]byte(body), crc32.MakeTable(crc32.Castagnoli))
	for i := range 4 {
		if s[8+i] != byte(sum>>(8*i)) {
			t.Errorf("check %x of %x", s[8:12], sum)
		}
	}
	if s := put(t, Root{Epoch: 1}); s[12:56] != strings.Repeat("\x00", 44) {
		t.Errorf("no pages: %x", s)
	}
	// Parts that are not have a 0, and so have the bytes behind them.
	if s := put(t, Root{Epoch: 1, Logical: 117, Parts: []int{1023, 1022}}); s[20:56] != strings.Repeat("\x00", 36) {
		t.Errorf("two parts: %x", s)
	}
}

func TestPut(t *testing.T) {
	for _, r := range goodRoots() {
		if want, e := wantPut(r); e != api.OK || put(t, r) != want {
			t.Errorf("Put(%v) is not %x (%d)", r, want, int(e))
		}
	}
}

func TestPutEveryLogical(t *testing.T) {
	for logical := -3; logical <= 600; logical++ {
		for many := range 8 {
			r := Root{Epoch: 9, Logical: logical, Parts: []int{1, 2, 3, 4, 5, 6, 7}[:many]}
			want, e := wantPut(r)
			if got, f := Put(r); got != want || f != e {
				t.Errorf("Put(%v) = %x, %d", r, got, int(f))
			}
		}
	}
}

func TestPutWrong(t *testing.T) {
	for _, logical := range logicals {
		good := rootOn(3, logical, logical)
		for _, epoch := range badEpochs {
			r := good
			r.Epoch = epoch
			putsNone(t, r)
		}
		if len(good.Parts) > 0 {
			putsNone(t, with(good, good.Parts[1:]...))
			putsNone(t, with(good))
		}
		putsNone(t, with(good, append([]int{1021}, good.Parts...)...))
		putsNone(t, with(good, make([]int, 1000)...))
		for i := range good.Parts {
			for _, p := range badPages {
				putsNone(t, changedPart(good, i, p))
			}
			for j := range i {
				putsNone(t, changedPart(good, i, good.Parts[j]))
			}
		}
	}
	for _, logical := range badLogicals {
		for many := range 8 {
			putsNone(t, Root{Epoch: 1, Logical: logical, Parts: []int{1, 2, 3, 4, 5, 6, 7}[:many]})
		}
	}
	putsNone(t, Root{})
	putsNone(t, Root{Epoch: math.MinInt, Logical: math.MaxInt, Parts: []int{math.MinInt, math.MaxInt}})
}

func TestPutPages(t *testing.T) {
	for i := range 5 {
		for _, p := range goodPages {
			r := with(rootOn(5, 512, 0), 900, 901, 902, 903, 904)
			r = changedPart(r, i, p)
			gets(t, put(t, r), r)
		}
	}
}

func TestGetEpochs(t *testing.T) {
	body := numbers(1, 1, 5)
	for _, epoch := range goodEpochs {
		gets(t, slot(epoch, body, epoch), Root{epoch, 1, []int{5}})
		for _, again := range append(append([]int{epoch + 1, epoch - 1, -epoch, epoch ^ 1<<39}, badEpochs...), goodEpochs...) {
			if again != epoch {
				getsNone(t, slot(epoch, body, again))
				getsNone(t, slot(again, body, epoch))
			}
		}
	}
	for _, epoch := range badEpochs {
		getsNone(t, slot(epoch, body, epoch))
	}
}

func TestGetSizes(t *testing.T) {
	s := put(t, rootOn(3, 512, 1))
	for n := range 64 {
		getsNone(t, s[:n])
		getsNone(t, s[64-n:])
		getsNone(t, strings.Repeat("\x00", n))
	}
	for n := range 66 {
		getsNone(t, s+strings.Repeat("\x00", n+1))
		getsNone(t, strings.Repeat("\x00", n+1)+s)
	}
	getsNone(t, s+s)
	for c := range 256 {
		getsNone(t, strings.Repeat(string([]byte{byte(c)}), 64))
	}
	gets(t, s, rootOn(3, 512, 1))
}

func TestGetEachByteChanged(t *testing.T) {
	for _, r := range []Root{rootOn(1, 0, 0), rootOn(1<<40, 1, 1), rootOn(258, 117, 2), rootOn(77, 512, 3)} {
		s := put(t, r)
		for i := range s {
			for d := 1; d < 256; d++ {
				b := []byte(s)
				b[i] ^= byte(d)
				getsNone(t, string(b))
			}
		}
	}
}

// A right check does not make a root that may not be one that may.
func TestGetMayNotBe(t *testing.T) {
	for _, l := range [][]int{
		{513, 5, 1, 2, 3, 4, 5}, {580, 5, 1, 2, 3, 4, 5}, {581, 6, 1, 2, 3, 4, 5, 6}, {65535, 5, 1, 2, 3, 4, 5}, {65535, 65535},
		{0, 1, 5}, {1, 0}, {1, 2, 5, 6}, {116, 2, 5, 6}, {117, 1, 5}, {117, 3, 5, 6, 7},
		{464, 3, 1, 2, 3}, {464, 5, 1, 2, 3, 4, 5}, {512, 4, 1, 2, 3, 4}, {512, 6, 1, 2, 3, 4, 5, 6}, {0, 65535}, {1, 257, 5}, {1, 256},
		{117, 2, 5, 5}, {117, 2, 0, 0}, {233, 3, 5}, {233, 3, 5, 6, 5}, {512, 5, 1, 2, 3, 4, 1}, {512, 5, 1, 2, 3, 4, 4},
		{1, 1, 1024}, {1, 1, 1025}, {1, 1, 32768}, {1, 1, 65535}, {117, 2, 5, 1024}, {117, 2, 1024, 5}, {512, 5, 1, 2, 3, 4, 1024},
	} {
		getsNone(t, slot(3, numbers(l...), 3))
	}
	gets(t, slot(3, numbers(1, 1, 1023), 3), Root{3, 1, []int{1023}})
	gets(t, slot(3, numbers(1, 1, 0), 3), Root{3, 1, []int{0}})
}

// Whether a slot says something hangs on the numbers that the document names, not on what stands behind them.
func TestGetBytesBehind(t *testing.T) {
	for _, many := range []int{0, 1, 2, 4, 5} {
		r := rootOn(4, 116*many, 2)
		r.Logical = min(r.Logical, 512)
		for at := 4 + 2*many; at < 44; at++ {
			b := []byte(numbers(append([]int{r.Logical, many}, r.Parts...)...) + strings.Repeat("\x00", 44))[:44]
			b[at] = 0x77
			gets(t, slot(4, string(b), 4), r)
		}
	}
}

// Of roots one of whose numbers is another one, beside a right check, Get says what another reading says.
func TestGetRandom(t *testing.T) {
	r := rand.New(rand.NewSource(1))
	says, none := 0, 0
	for range 40000 {
		logical := r.Intn(520)
		l := append([]int{logical, partsOf(logical)}, r.Perm(1026)[:5]...)
		switch r.Intn(4) {
		case 0:
			l[r.Intn(2)] += r.Intn(5) - 2
		case 1:
			l[2+r.Intn(5)] = l[2+r.Intn(5)]
		}
		s := slot(r.Intn(3), numbers(l...), r.Intn(3))
		want, is := wantGet(s)
		if is {
			says++
			gets(t, s, want)
		} else {
			none++
			getsNone(t, s)
		}
	}
	if says < 2000 || none < 2000 {
		t.Error("too few of a kind", says, none)
	}
}

// P13.2

func TestNewer(t *testing.T) {
	old, young := rootOn(3, 117, 1), rootOn(4, 1, 2)
	a, b := put(t, old), put(t, young)
	newer(t, a, b, young, 1)
	newer(t, b, a, young, 0)
	newer(t, a, a, old, 0)
	other := rootOn(3, 512, 3)
	newer(t, a, put(t, other), old, 0)
	newer(t, put(t, other), a, other, 0)
	for _, nothing := range []string{"", a[:63], b + "\x00", strings.Repeat("\x00", 64), strings.Repeat("\xff", 64), b[:8] + a[8:], slot(1<<40+1, numbers(0, 0), 1<<40+1), slot(0, numbers(0, 0), 0), slot(9, numbers(1, 0), 9)} {
		newer(t, a, nothing, old, 0)
		newer(t, nothing, a, old, 1)
		newer(t, nothing, nothing, Root{}, -1)
		newer(t, nothing, "", Root{}, -1)
	}
}

func TestNewerPairs(t *testing.T) {
	var roots []Root
	for i, epoch := range goodEpochs {
		roots = append(roots, rootOn(epoch, logicals[i], i), rootOn(epoch, logicals[len(logicals)-1-i], i+1))
	}
	for _, a := range roots {
		for _, b := range roots {
			want, place := a, 0
			if b.Epoch > a.Epoch {
				want, place = b, 1
			}
			newer(t, put(t, a), put(t, b), want, place)
		}
	}
}

// P13.3

func TestNeed(t *testing.T) {
	for logical := -300; logical < 3000; logical++ {
		if got := Need(logical); got != partsOf(logical) {
			t.Errorf("Need(%d) = %d", logical, got)
		}
	}
	for _, c := range [][2]int{{-1, 0}, {0, 0}, {1, 1}, {116, 1}, {117, 2}, {232, 2}, {233, 3}, {512, 5}, {580, 5}, {581, 6},
		{math.MinInt, 0}, {math.MinInt + 1, 0}, {-1 << 32, 0}, {1 << 32, 37025581}, {math.MaxInt, 79511827903920482}} {
		if got := Need(c[0]); got != c[1] {
			t.Errorf("Need(%d) = %d, not %d", c[0], got, c[1])
		}
	}
}

// table is a table in which some pages have none.
func table(r *rand.Rand, n int) []int {
	l := make([]int, n)
	for i := range l {
		l[i] = []int{-1, 0, 1, 254, 255, 256, 1022, 1023, r.Intn(1024)}[r.Intn(9)]
	}
	return l
}

// wantPart is a part's payload, put together page by page from all of the table.
func wantPart(table []int, part int) string {
	s := ""
	for i, p := range table {
		if i/116 == part {
			s += numbers(max(p+1, 0))
		}
	}
	return s
}

func putPart(t *testing.T, table []int, part int) string {
	t.Helper()
	s, e := PutPart(table, part)
	if e != api.OK {
		t.Fatal("PutPart", len(table), part, int(e))
	}
	return s
}

func putPartFails(t *testing.T, table []int, part int, want api.Errno) {
	t.Helper()
	if s, e := PutPart(table, part); s != "" || e != want {
		t.Errorf("PutPart of %d pages, %d = %x, %d, not %d", len(table), part, s, int(e), int(want))
	}
}

func getPartFails(t *testing.T, payload string, many int, want api.Errno) {
	t.Helper()
	if l, e := GetPart(payload, many); l != nil || e != want {
		t.Errorf("GetPart(%x, %d) = %v, %d, not %d", payload, many, l, int(e), int(want))
	}
}

func TestPutPartBytes(t *testing.T) {
	if s := putPart(t, []int{-1, 0, 254, 255, 1022, 1023}, 0); s != "\x00\x00\x00\x01\x00\xff\x01\x00\x03\xff\x04\x00" {
		t.Errorf("%x", s)
	}
	for _, none := range []int{-1, -2, -1024, -1 << 16, -1 << 32, math.MinInt, math.MinInt + 1} {
		if s := putPart(t, []int{5, none, 6}, 0); s != "\x00\x06\x00\x00\x00\x07" {
			t.Errorf("%d: %x", none, s)
		}
	}
}

func TestPutPart(t *testing.T) {
	r := rand.New(rand.NewSource(2))
	for n := range 700 {
		l := table(r, n)
		last := partsOf(n) - 1
		for part := 0; part <= last; part++ {
			if got := putPart(t, l, part); got != wantPart(l, part) {
				t.Fatalf("PutPart of %d pages, %d: %x", n, part, got)
			}
		}
		for _, part := range []int{-1, -2, last + 1, last + 2, 1 << 32, 1<<32 + 1, math.MaxInt, math.MinInt, math.MaxInt / 116, math.MaxInt/116 + 1} {
			putPartFails(t, l, part, api.ErrRange)
		}
	}
	putPartFails(t, nil, 0, api.ErrRange)
}

func TestPutPartAbove(t *testing.T) {
	for _, n := range []int{1, 2, 116, 117, 232, 233, 512} {
		for at := range n {
			l := make([]int, n)
			for _, above := range []int{1024, 1025, 1<<16 - 1, 1 << 16, 1<<32 - 1, 1 << 32, math.MaxInt - 1, math.MaxInt} {
				l[at] = above
				putPartFails(t, l, at/116, api.ErrArg)
			}
			// No such part comes ahead of what its pages are.
			putPartFails(t, l, partsOf(n), api.ErrRange)
			putPartFails(t, l, -1, api.ErrRange)
			l[at] = 1023
			if got := putPart(t, l, at/116); got != wantPart(l, at/116) {
				t.Errorf("%d at %d: %x", n, at, got)
			}
		}
	}
}

// What is laid of a part is asked of its own pages alone.
func TestPutPartBesideAnother(t *testing.T) {
	l := make([]int, 348)
	l[115], l[232] = 1024, math.MaxInt
	if got := putPart(t, l, 1); got != wantPart(l, 1) {
		t.Errorf("%x", got)
	}
	putPartFails(t, l, 0, api.ErrArg)
	putPartFails(t, l, 2, api.ErrArg)
}

func TestGetPart(t *testing.T) {
	r := rand.New(rand.NewSource(3))
	for many := range 117 {
		for range 10 {
			l := table(r, many)
			payload := wantPart(l, 0)
			for _, behind := range []string{"", "\x00", "\xff\xff\xff", strings.Repeat("\x00", 232-2*many), strings.Repeat("\xff", 500)} {
				got, e := GetPart(payload+behind, many)
				if e != api.OK || !slices.Equal(got, l) {
					t.Fatalf("GetPart of %d = %v, %d, not %v", many, got, int(e), l)
				}
			}
		}
	}
}

func TestGetPartNumbers(t *testing.T) {
	for n := range 1 << 16 {
		s := numbers(n)
		if n > 1024 {
			getPartFails(t, s, 1, api.ErrCorrupt)
		} else if l, e := GetPart(s, 1); e != api.OK || !slices.Equal(l, []int{n - 1}) {
			t.Errorf("GetPart(%x) = %v, %d", s, l, int(e))
		}
	}
	for _, n := range []int{1025, 1026, 2048, 32768, 65535} {
		for at := range 116 {
			s := strings.Repeat("\x04\x00", at) + numbers(n) + strings.Repeat("\x00\x00", 115-at)
			getPartFails(t, s, 116, api.ErrCorrupt)
			getPartFails(t, s, at+1, api.ErrCorrupt)
			// What comes behind those that are asked for is none of them.
			if l, e := GetPart(s, at); e != api.OK || !slices.Equal(l, slices.Repeat([]int{1023}, at)) {
				t.Errorf("ahead of %d: %v, %d", at, l, int(e))
			}
		}
	}
}

func TestGetPartWrong(t *testing.T) {
	long := strings.Repeat("\x00\x01", 200)
	corrupt := strings.Repeat("\xff", 400)
	for _, many := range []int{-1, -2, -116, 117, 118, 200, 1 << 16, 1 << 32, 1<<32 + 1, 1 << 62, 1<<62 + 1, math.MaxInt, math.MinInt, math.MinInt + 1} {
		for _, s := range []string{"", "\x00", long, corrupt} {
			getPartFails(t, s, many, api.ErrArg)
		}
	}
	for many := 1; many <= 116; many++ {
		for n := range 2 * many {
			getPartFails(t, long[:n], many, api.ErrShort)
			getPartFails(t, corrupt[:n], many, api.ErrShort)
		}
		if l, e := GetPart(long[:2*many], many); e != api.OK || len(l) != many {
			t.Error(many, l, int(e))
		}
	}
	for _, s := range []string{"", "\x00", corrupt} {
		if l, e := GetPart(s, 0); e != api.OK || len(l) != 0 {
			t.Errorf("GetPart(%x, 0) = %v, %d", s, l, int(e))
		}
	}
}

// P13.4

func TestRootThereAndBack(t *testing.T) {
	for _, r := range goodRoots() {
		gets(t, put(t, r), r)
	}
	r := rand.New(rand.NewSource(4))
	for range 5000 {
		x := randomRoot(r)
		s := put(t, x)
		gets(t, s, x)
		back, _ := Get(s)
		if put(t, back) != s {
			t.Errorf("%v is laid in two ways", x)
		}
	}
}

func TestTableThereAndBack(t *testing.T) {
	r := rand.New(rand.NewSource(5))
	for n := range 600 {
		l := table(r, n)
		var back []int
		for part := range Need(n) {
			// A page's payload comes back with bytes 0 behind it.
			payload := (putPart(t, l, part) + strings.Repeat("\x00", 232))[:232]
			pages, e := GetPart(payload, min(116, n-116*part))
			if e != api.OK {
				t.Fatal(n, part, int(e))
			}
			back = append(back, pages...)
		}
		if !slices.Equal(back, l) {
			t.Fatalf("%d pages: %v, not %v", n, back, l)
		}
	}
}

// P13.5

// torn asks of every beginning of one text over another one whether it says what one of them says, or nothing.
func torn(t *testing.T, old, young Root, told map[string]int) {
	t.Helper()
	a, b := put(t, old), put(t, young)
	for n := range 65 {
		r, is := Get(b[:n] + a[n:])
		switch {
		case is && same(r, old):
			told["old"]++
		case is && same(r, young):
			told["new"]++
		case is:
			t.Errorf("%d bytes of %v over %v: %v", n, young, old, r)
		default:
			told["nothing"]++
		}
		if n == 0 && !same(r, old) || n == 64 && !same(r, young) {
			t.Errorf("%d bytes of %v over %v: %v, %v", n, young, old, r, is)
		}
	}
}

func TestTornPairs(t *testing.T) {
	told := map[string]int{}
	var roots []Root
	for i, epoch := range goodEpochs {
		roots = append(roots, rootOn(epoch, 0, i), rootOn(epoch, 117, i), rootOn(epoch, 512, i))
	}
	for _, old := range roots {
		for _, young := range roots {
			if old.Epoch != young.Epoch {
				torn(t, old, young, told)
			}
		}
	}
	for _, what := range []string{"old", "new", "nothing"} {
		if told[what] < 500 {
			t.Error(what, told[what])
		}
	}
}

func TestTornRandom(t *testing.T) {
	r := rand.New(rand.NewSource(6))
	for range 1000 {
		old, young := randomRoot(r), randomRoot(r)
		if r.Intn(2) == 0 {
			young.Epoch = min(old.Epoch+1+r.Intn(2), 1<<40)
		}
		if old.Epoch != young.Epoch {
			torn(t, old, young, map[string]int{})
		}
	}
}

// A slot that had nothing says nothing till the last byte of its first root is there.
func TestTornOverNothing(t *testing.T) {
	r := rootOn(258, 117, 3)
	s := put(t, r)
	for n := range 64 {
		getsNone(t, s[:n]+strings.Repeat("\x00", 64-n))
	}
}

// R3

func TestHandedInIsNotChanged(t *testing.T) {
	room := []int{3, 4, 5, 6, 7, 88, 99}
	was := slices.Clone(room)
	for many := range 8 {
		for _, logical := range []int{0, 1, 117, 233, 349, 512} {
			Put(Root{Epoch: 1, Logical: logical, Parts: room[:many]})
		}
	}
	PutPart(room[:5], 0)
	PutPart(room[:5], 1)
	if !slices.Equal(room, was) {
		t.Error(room)
	}
	l := slices.Repeat([]int{-7}, 300)
	PutPart(l[:200], 1)
	if !slices.Equal(l, slices.Repeat([]int{-7}, 300)) {
		t.Error(l)
	}
}

func TestAnswersAreNewMemory(t *testing.T) {
	for _, logical := range logicals[1:] {
		want := rootOn(3, logical, 1)
		s := put(t, want)
		r, _ := Get(s)
		x, _, _ := Newer(s, s)
		for i := range r.Parts {
			r.Parts[i] = 1000
			x.Parts[i] = 1001
		}
		gets(t, s, want)
		newer(t, s, s, want, 0)
		if r.Parts[0] != 1000 || x.Parts[0] != 1001 {
			t.Error("two answers share memory")
		}
		// What is put behind one is not seen behind it by another one.
		one, two := append(r.Parts, 1), append(r.Parts, 2)
		if one[len(one)-1] != 1 || two[len(two)-1] != 2 {
			t.Error("two lists share what comes behind the parts", logical)
		}
	}
	payload := numbers(1, 2, 3)
	l, _ := GetPart(payload, 3)
	l[0] = 77
	if l, _ := GetPart(payload, 3); !slices.Equal(l, []int{0, 1, 2}) {
		t.Error(l)
	}
	parts := []int{5}
	s := put(t, Root{Epoch: 1, Logical: 1, Parts: parts})
	parts[0] = 6
	gets(t, s, Root{1, 1, []int{5}})
}

// R1

func TestAnyTexts(t *testing.T) {
	r := rand.New(rand.NewSource(7))
	for range 20000 {
		b := make([]byte, r.Intn(70))
		r.Read(b)
		s := string(b)
		getsNone(t, s)
		newer(t, s, s, Root{}, -1)
		many := r.Intn(120) - 2
		l, e := GetPart(s, many)
		if (e == api.OK) != (l != nil || many == 0) || e == api.OK && len(l) != many {
			t.Fatal(fmt.Sprintf("GetPart(%x, %d)", s, many), l, int(e))
		}
	}
}
