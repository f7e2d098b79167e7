package stamp

import (
	"math"
	"math/big"
	"math/rand"
	"slices"
	"strings"
	"testing"

	"horologe/api"
	"horologe/pack"
)

const (
	tiny     = math.SmallestNonzeroFloat64
	normal   = 0x1p-1022
	greatest = math.MaxFloat64
	key1     = "\xbf\xf0\x00\x00\x00\x00\x00\x00" // the time 1
	number0  = "\x80\x00\x00\x00\x00\x00\x00\x00" // a Src or an N of 0
)

var (
	infinity  = math.Inf(1)
	zeroBelow = math.Copysign(0, -1)
)

// risingTimes are all different, as times are compared; the zero below is not among them.
func risingTimes() []float64 {
	above := []float64{
		tiny, 2 * tiny, normal - tiny, normal, normal + tiny, 1e-300, 1e-9, 0.1, 0.5,
		math.Nextafter(1, 0), 1, math.Nextafter(1, 2), 1.5, 2, 255, 256, 257, 1e9, 1 << 40, 1<<53 - 1, 1 << 53, 1<<53 + 2,
		math.MaxInt64, math.MaxUint64, 1e300, math.Nextafter(greatest, 0), greatest, infinity,
	}
	l := []float64{0}
	for _, x := range above {
		l = append([]float64{-x}, l...)
		l = append(l, x)
	}
	return l
}

// noNumbers are quiet and loud ones, of both signs, the least and the greatest of each by their bits.
func noNumbers() []float64 {
	l := []float64{math.NaN()}
	for _, b := range noNumberBits() {
		l = append(l, math.Float64frombits(b))
	}
	return l
}

func noNumberBits() []uint64 {
	return []uint64{
		0x7ff0000000000001, 0x7ff7ffffffffffff, 0x7ff8000000000000, 0x7ff8000000000001, 0x7fffffffffffffff,
		0xfff0000000000001, 0xfff7ffffffffffff, 0xfff8000000000000, 0xfff8000000000001, 0xffffffffffffffff,
	}
}

// randomTime is any bits that are a number, or one of a few small ones, so that some are the same.
func randomTime(r *rand.Rand) float64 {
	if r.Intn(3) == 0 {
		return float64(r.Intn(9)-4) / 2
	}
	for {
		if t := math.Float64frombits(r.Uint64()); !math.IsNaN(t) {
			return t
		}
	}
}

func randomInt(r *rand.Rand) int {
	if r.Intn(2) == 0 {
		return r.Intn(5) - 2
	}
	return int(r.Uint64())
}

func randomStamp(r *rand.Rand) api.Stamp {
	return api.Stamp{T: randomTime(r), Src: randomInt(r), N: randomInt(r)}
}

func edgeInts() []int {
	return []int{math.MinInt, math.MinInt + 1, -256, -1, 0, 1, 255, 256, math.MaxInt - 1, math.MaxInt}
}

// edgeStamps have every time that there is an edge at, with few Src and N, and every Src and N, with few times.
func edgeStamps() []api.Stamp {
	var l []api.Stamp
	ends := []int{math.MinInt, 0, math.MaxInt}
	for _, t := range append(risingTimes(), zeroBelow) {
		for _, n := range ends {
			l = append(l, api.Stamp{T: t, Src: n, N: -n})
		}
	}
	for _, src := range edgeInts() {
		for _, n := range edgeInts() {
			l = append(l, api.Stamp{T: -0.5, Src: src, N: n}, api.Stamp{T: 7, Src: src, N: n})
		}
	}
	return l
}

func sameBits(a, b float64) bool { return math.Float64bits(a) == math.Float64bits(b) }

func sameStamp(a, b api.Stamp) bool { return sameBits(a.T, b.T) && a.Src == b.Src && a.N == b.N }

// kept turns the zero below in another way than the package does.
func kept(s api.Stamp) api.Stamp {
	if sameBits(s.T, zeroBelow) {
		s.T = math.Abs(s.T)
	}
	return s
}

func keyOf(t *testing.T, s api.Stamp) string {
	t.Helper()
	k, e := Key(s)
	if e != api.OK {
		t.Fatalf("Key(%v): error %d", s, int(e))
	}
	return k
}

// P2.1

func TestNorm(t *testing.T) {
	for _, x := range risingTimes() {
		if got, e := Norm(x); !sameBits(got, x) || e != api.OK {
			t.Errorf("Norm(%v) = %v, %d", x, got, int(e))
		}
	}
	if got, e := Norm(zeroBelow); !sameBits(got, 0) || e != api.OK {
		t.Errorf("Norm of the zero below = %v, %d", got, int(e))
	}
	for _, x := range noNumbers() {
		if got, e := Norm(x); !sameBits(got, 0) || e != api.ErrTime {
			t.Errorf("Norm(%x) = %v, %d", math.Float64bits(x), got, int(e))
		}
	}
}

func TestLaterComesLater(t *testing.T) {
	for _, c := range []struct{ t, d, want float64 }{
		{1, 0.5, 1.5}, {-1, 0.5, -0.5}, {0, 1, 1}, {zeroBelow, 1, 1}, {0, tiny, tiny}, {zeroBelow, tiny, tiny},
		{-1, 1, 0}, {-tiny, tiny, 0}, {-greatest, greatest, 0}, {1 << 53, 2, 1<<53 + 2}, {1 << 53, 1.5, 1<<53 + 2},
		{1<<53 - 1, 0.5, 1 << 53}, {-1 << 53, 1, 1 - 1<<53}, {normal, tiny, normal + tiny},
		{greatest, greatest, infinity}, {greatest, infinity, infinity}, {0, infinity, infinity}, {-greatest, infinity, infinity},
		{1, 0x1p-52, math.Nextafter(1, 2)}, {1, 0x1.8p-53, math.Nextafter(1, 2)},
	} {
		if got, e := Later(c.t, c.d); !sameBits(got, c.want) || e != api.OK {
			t.Errorf("Later(%v, %v) = %v, %d", c.t, c.d, got, int(e))
		}
	}
}

func TestLaterRefuses(t *testing.T) {
	refused := [][2]float64{
		{1, 0}, {1, zeroBelow}, {0, 0}, {zeroBelow, zeroBelow}, {1, -tiny}, {1, -1}, {-1, -greatest}, {1, -infinity},
		{1 << 53, 0.5}, {1 << 53, 1}, {1, 0x1p-53}, {1, tiny}, {-1, tiny}, {greatest, 1}, {-greatest, 1}, {greatest, 1e200},
		{infinity, 1}, {infinity, tiny}, {infinity, greatest}, {infinity, infinity}, {infinity, -infinity}, {infinity, 0},
		{-infinity, 1}, {-infinity, greatest}, {-infinity, infinity}, {-infinity, -infinity}, {-infinity, 0},
	}
	for _, x := range noNumbers() {
		for _, y := range append(risingTimes(), zeroBelow, math.NaN()) {
			refused = append(refused, [2]float64{x, y}, [2]float64{y, x})
		}
	}
	for _, c := range refused {
		if got, e := Later(c[0], c[1]); !sameBits(got, 0) || e != api.ErrTime {
			t.Errorf("Later(%v, %v) = %v, %d", c[0], c[1], got, int(e))
		}
	}
}

// wantLater adds without loss, and rounds once.
func wantLater(t, d float64) (float64, api.Errno) {
	exact := func(x float64) *big.Float { return new(big.Float).SetPrec(3000).SetFloat64(x) }
	sum, _ := exact(0).Add(exact(t), exact(d)).Float64()
	if sum <= t || d <= 0 {
		return 0, api.ErrTime
	}
	return sum, api.OK
}

func TestLaterIsTheSum(t *testing.T) {
	r := rand.New(rand.NewSource(1))
	l := risingTimes()
	for range 200 {
		l = append(l, randomTime(r))
	}
	for _, x := range l {
		for _, d := range l {
			if math.IsInf(x, 0) || math.IsInf(d, 0) {
				continue
			}
			want, wantE := wantLater(x, d)
			if got, e := Later(x, d); !sameBits(got, want) || e != wantE {
				t.Errorf("Later(%v, %v) = %v, %d", x, d, got, int(e))
			}
		}
	}
}

// P2.2

// ranked are times, each with its rank: those of the same rank are the same in the order of times.
func ranked() ([]float64, []int) {
	var times []float64
	var ranks []int
	for i, x := range risingTimes() {
		times, ranks = append(times, x), append(ranks, i)
		if x == 0 {
			times, ranks = append(times, zeroBelow), append(ranks, i)
		}
	}
	behind := len(times)
	for _, x := range noNumbers() {
		times, ranks = append(times, x), append(ranks, behind)
	}
	return times, ranks
}

func sign(n int) int {
	switch {
	case n < 0:
		return -1
	case n > 0:
		return 1
	}
	return 0
}

func TestTimes(t *testing.T) {
	times, ranks := ranked()
	for i, a := range times {
		for j, b := range times {
			if got := Times(a, b); got != sign(ranks[i]-ranks[j]) {
				t.Errorf("Times(%v, %v) = %d", a, b, got)
			}
		}
	}
}

func TestCompareGoesByTheFirstPartThatDiffers(t *testing.T) {
	times, ranks := ranked()
	ints := []int{math.MinInt, -1, 0, 1, math.MaxInt}
	for i, x := range times {
		for j, y := range times {
			if ranks[i] == ranks[j] {
				continue
			}
			// Src and N say the opposite, and do not count.
			a, b := api.Stamp{T: x, Src: j, N: j}, api.Stamp{T: y, Src: i, N: i}
			if got := Compare(a, b); got != sign(ranks[i]-ranks[j]) {
				t.Errorf("Compare(%v, %v) = %d", a, b, got)
			}
		}
	}
	for _, same := range [][2]float64{{1, 1}, {0, zeroBelow}, {zeroBelow, 0}, {infinity, infinity}, {-infinity, -infinity}, {math.NaN(), -math.NaN()}} {
		for i, m := range ints {
			for j, n := range ints {
				a, b := api.Stamp{T: same[0], Src: m, N: n}, api.Stamp{T: same[1], Src: n, N: m}
				if got := Compare(a, b); got != sign(i-j) {
					t.Errorf("Compare(%v, %v) = %d", a, b, got)
				}
				a, b = api.Stamp{T: same[0], Src: 3, N: m}, api.Stamp{T: same[1], Src: 3, N: n}
				if got := Compare(a, b); got != sign(i-j) {
					t.Errorf("Compare(%v, %v) = %d", a, b, got)
				}
			}
		}
	}
}

func TestFirst(t *testing.T) {
	one, two := api.Stamp{T: 1, Src: 1, N: 1}, api.Stamp{T: 2}
	none := api.Stamp{T: math.NaN()}
	for _, c := range []struct {
		l    []api.Stamp
		want int
	}{
		{nil, -1}, {[]api.Stamp{}, -1}, {[]api.Stamp{two}, 0}, {[]api.Stamp{none}, 0}, {[]api.Stamp{none, none}, 0},
		{[]api.Stamp{one, two}, 0}, {[]api.Stamp{two, one}, 1}, {[]api.Stamp{two, one, two}, 1},
		{[]api.Stamp{two, one, one}, 1}, {[]api.Stamp{one, one}, 0}, {[]api.Stamp{none, none, two, one, none, one}, 3},
		{[]api.Stamp{{T: 0}, {T: zeroBelow}}, 0}, {[]api.Stamp{{T: zeroBelow}, {T: 0}}, 0}, {[]api.Stamp{{T: 0, N: 1}, {T: zeroBelow}}, 1},
		{[]api.Stamp{{T: 1, Src: 2}, {T: 1, Src: 1, N: 9}}, 1}, {[]api.Stamp{{T: 1, Src: 1, N: 0}, {T: 1, Src: 1, N: -1}}, 1},
		{[]api.Stamp{{T: -greatest}, {T: -infinity}, {T: infinity}}, 1}, {[]api.Stamp{none, {T: infinity}}, 1},
		{[]api.Stamp{{Src: math.MaxInt}, {Src: math.MinInt}}, 1}, {[]api.Stamp{{N: math.MaxInt}, {N: math.MinInt}}, 1},
	} {
		if got := First(c.l); got != c.want {
			t.Errorf("First(%v) = %d", c.l, got)
		}
	}
}

func TestFirstOfMany(t *testing.T) {
	r := rand.New(rand.NewSource(2))
	for n := range 60 {
		l := make([]api.Stamp, n+1)
		for i := range l {
			l[i] = api.Stamp{T: float64(r.Intn(4)), Src: r.Intn(2), N: r.Intn(2)}
		}
		least := slices.MinFunc(l, Compare)
		if got := First(l); got != slices.Index(l, least) {
			t.Errorf("First(%v) = %d", l, got)
		}
	}
}

// P2.3

func TestKeyOfTimes(t *testing.T) {
	for _, c := range []struct {
		t    float64
		want string
	}{
		{0, "\x80\x00\x00\x00\x00\x00\x00\x00"}, {zeroBelow, "\x80\x00\x00\x00\x00\x00\x00\x00"},
		{1, key1}, {-1, "\x40\x0f\xff\xff\xff\xff\xff\xff"},
		{-1.5, "\x40\x07\xff\xff\xff\xff\xff\xff"}, {1.5, "\xbf\xf8\x00\x00\x00\x00\x00\x00"},
		{tiny, "\x80\x00\x00\x00\x00\x00\x00\x01"}, {-tiny, "\x7f\xff\xff\xff\xff\xff\xff\xfe"},
		{greatest, "\xff\xef\xff\xff\xff\xff\xff\xff"}, {-greatest, "\x00\x10\x00\x00\x00\x00\x00\x00"},
		{infinity, "\xff\xf0\x00\x00\x00\x00\x00\x00"}, {-infinity, "\x00\x0f\xff\xff\xff\xff\xff\xff"},
	} {
		if got, e := Key(api.Stamp{T: c.t}); got != c.want+number0+number0 || e != api.OK {
			t.Errorf("Key of the time %v = %x, %d", c.t, got, int(e))
		}
	}
	for _, x := range noNumbers() {
		if got, e := Key(api.Stamp{T: x, Src: 1, N: 2}); got != "" || e != api.ErrTime {
			t.Errorf("Key of no number = %x, %d", got, int(e))
		}
	}
}

func TestKeyOfNumbers(t *testing.T) {
	if got := keyOf(t, api.Stamp{T: 1, Src: 2, N: -1}); got != key1+"\x80\x00\x00\x00\x00\x00\x00\x02\x7f\xff\xff\xff\xff\xff\xff\xff" {
		t.Errorf("%x", got)
	}
	least, most := strings.Repeat("\x00", 8), strings.Repeat("\xff", 8)
	if got := keyOf(t, api.Stamp{T: 1, Src: math.MinInt, N: math.MaxInt}); got != key1+least+most {
		t.Errorf("%x", got)
	}
	if got := keyOf(t, api.Stamp{T: 1, Src: math.MaxInt, N: math.MinInt}); got != key1+most+least {
		t.Errorf("%x", got)
	}
	for _, src := range edgeInts() {
		for _, n := range edgeInts() {
			if got := keyOf(t, api.Stamp{T: 1, Src: src, N: n}); got != key1+pack.I(src)+pack.I(n) || len(got) != 24 {
				t.Errorf("Key of %d, %d = %x", src, n, got)
			}
		}
	}
}

// checkRefused reads at a place where there is no stamp.
func checkRefused(t *testing.T, b string, at int, want api.Errno) {
	t.Helper()
	if s, next, e := Read(b, at); !sameStamp(s, api.Stamp{}) || next != 0 || e != want {
		t.Errorf("Read(%x, %d) = %v, %d, %d", b, at, s, next, int(e))
	}
}

func TestReadAtEveryPlace(t *testing.T) {
	s := api.Stamp{T: 2.5, Src: 3, N: 4}
	k := keyOf(t, s)
	for length := range 61 {
		// Every byte of 80 hexadecimal: a stamp wherever there are 24 of them.
		b := strings.Repeat("\x80", length)
		for at := -30; at <= length+30; at++ {
			switch {
			case at < 0 || at > length:
				checkRefused(t, b, at, api.ErrRange)
			case length-at < 24:
				checkRefused(t, b, at, api.ErrShort)
			default:
				if _, next, e := Read(b, at); next != at+24 || e != api.OK {
					t.Errorf("Read(%d bytes, %d) = %d, %d", length, at, next, int(e))
				}
			}
		}
	}
	for _, at := range []int{math.MinInt, math.MinInt + 1, -25, -24, -1, 25, 26, math.MaxInt - 24, math.MaxInt - 8, math.MaxInt - 1, math.MaxInt} {
		checkRefused(t, k, at, api.ErrRange)
	}
	checkRefused(t, "", 0, api.ErrShort)
	for length := range 24 {
		checkRefused(t, k[:length], 0, api.ErrShort)
	}
	if got, next, e := Read(k, 0); !sameStamp(got, s) || next != 24 || e != api.OK {
		t.Errorf("Read = %v, %d, %d", got, next, int(e))
	}
}

// wrongTimes are eight bytes of what is no number, and of the zero below.
func wrongTimes() []string {
	l := []string{"\x7f\xff\xff\xff\xff\xff\xff\xff"}
	for _, b := range noNumberBits() {
		if b >= 1<<63 {
			l = append(l, pack.U(math.MaxUint64-b))
		} else {
			l = append(l, pack.U(b+1<<63))
		}
	}
	return l
}

func TestReadRefusesTimes(t *testing.T) {
	rest := pack.I(1) + pack.I(2)
	for _, wrong := range wrongTimes() {
		checkRefused(t, wrong+rest, 0, api.ErrTime)
		checkRefused(t, "ahead"+wrong+rest+"behind", 5, api.ErrTime)
	}
	// Those beside them are times.
	for _, right := range []string{
		"\x00\x0f\xff\xff\xff\xff\xff\xff", "\xff\xf0\x00\x00\x00\x00\x00\x00",
		"\x7f\xff\xff\xff\xff\xff\xff\xfe", "\x80\x00\x00\x00\x00\x00\x00\x00",
	} {
		if _, next, e := Read(right+rest, 0); next != 24 || e != api.OK {
			t.Errorf("Read(%x) = %d, %d", right, next, int(e))
		}
	}
}

func TestReadTellsTheErrorOfPackFirst(t *testing.T) {
	for _, wrong := range wrongTimes() {
		whole := wrong + pack.I(1) + pack.I(2)
		for length := range 24 {
			checkRefused(t, whole[:length], 0, api.ErrShort)
		}
		for _, at := range []int{math.MinInt, -1, 25, math.MaxInt} {
			checkRefused(t, whole, at, api.ErrRange)
		}
		checkRefused(t, whole, 1, api.ErrShort)
	}
}

// P2.4

func TestCompareIsAnOrder(t *testing.T) {
	r := rand.New(rand.NewSource(3))
	l := []api.Stamp{{T: 0}, {T: zeroBelow}, {T: infinity}, {T: -infinity}, {Src: math.MinInt}, {N: math.MaxInt}}
	for _, x := range noNumbers() {
		l = append(l, api.Stamp{T: x}, api.Stamp{T: x, Src: -1, N: 2})
	}
	for range 40 {
		l = append(l, api.Stamp{T: float64(r.Intn(3)), Src: r.Intn(3), N: r.Intn(3)}, randomStamp(r))
	}
	for _, a := range l {
		if Compare(a, a) != 0 {
			t.Errorf("%v is not the same as itself", a)
		}
		for _, b := range l {
			ab := Compare(a, b)
			if ab != -Compare(b, a) || ab < -1 || ab > 1 {
				t.Errorf("%v, %v: %d, and %d", a, b, ab, Compare(b, a))
			}
			if (ab == 0) != (Times(a.T, b.T) == 0 && a.Src == b.Src && a.N == b.N) {
				t.Errorf("%v, %v: %d", a, b, ab)
			}
			for _, c := range l {
				if ab <= 0 && Compare(b, c) <= 0 && Compare(a, c) != min(ab, Compare(b, c)) {
					t.Errorf("%v, %v, %v: no order", a, b, c)
				}
			}
		}
	}
}

func TestOrderOfKeysIsOrderOfStamps(t *testing.T) {
	r := rand.New(rand.NewSource(4))
	l := edgeStamps()
	for range 300 {
		l = append(l, randomStamp(r))
	}
	keys := make([]string, len(l))
	for i, s := range l {
		keys[i] = keyOf(t, s)
	}
	for i := range l {
		for j := range l {
			if got, want := strings.Compare(keys[i], keys[j]), Compare(l[i], l[j]); got != want {
				t.Errorf("%v, %v: keys %d, stamps %d", l[i], l[j], got, want)
			}
		}
	}
}

// P2.5

func TestThereAndBack(t *testing.T) {
	r := rand.New(rand.NewSource(5))
	l := edgeStamps()
	for range 2000 {
		l = append(l, randomStamp(r))
	}
	for _, s := range l {
		k := keyOf(t, s)
		for _, ahead := range []string{"", "\x00", "\xff\xff\xff", strings.Repeat("x", 24)} {
			for _, behind := range []string{"", "\x00", "\xff", k} {
				got, next, e := Read(ahead+k+behind, len(ahead))
				if !sameStamp(got, kept(s)) || next != len(ahead)+24 || e != api.OK {
					t.Errorf("%v came back as %v, %d, %d", s, got, next, int(e))
				}
			}
		}
	}
}

func TestReadHasTheVeryKey(t *testing.T) {
	r := rand.New(rand.NewSource(6))
	read := 0
	for range 20000 {
		b := make([]byte, 24+r.Intn(9))
		r.Read(b)
		for i := range r.Intn(9) {
			// Times near both zeros, both infinities, and what is no number.
			b[i] = []byte{0x00, 0x7f, 0x80, 0xff, 0xf0, 0x0f}[r.Intn(6)]
		}
		at := r.Intn(len(b) - 23)
		s, next, e := Read(string(b), at)
		if e == api.ErrTime {
			continue
		}
		read++
		if k := keyOf(t, s); e != api.OK || next != at+24 || k != string(b[at:next]) {
			t.Errorf("%x at %d was read as %v, whose key is %x; error %d", b, at, s, k, int(e))
		}
	}
	if read < 1000 {
		t.Error("too few were read:", read)
	}
}

func TestStampsBehindOneAnother(t *testing.T) {
	l := edgeStamps()
	var b strings.Builder
	for _, s := range l {
		b.WriteString(keyOf(t, s))
	}
	at := 0
	for _, s := range l {
		got, next, e := Read(b.String(), at)
		if !sameStamp(got, kept(s)) || next != at+24 || e != api.OK {
			t.Fatalf("%v came back as %v, %d, %d", s, got, next, int(e))
		}
		at = next
	}
	checkRefused(t, b.String(), at, api.ErrShort)
}

// P2.6

func TestWhatComesLaterDoes(t *testing.T) {
	r := rand.New(rand.NewSource(7))
	times := append(risingTimes(), zeroBelow)
	for range 300 {
		times = append(times, randomTime(r))
	}
	slices.Sort(times)
	for _, d := range times {
		last := -infinity
		for _, x := range times {
			got, e := Later(x, d)
			if e != api.OK {
				continue
			}
			if !(got > x) || Times(got, x) != 1 {
				t.Errorf("Later(%v, %v) = %v does not come later", x, d, got)
			}
			if got < last {
				t.Errorf("Later(%v, %v) = %v, less than of a lesser time: %v", x, d, got, last)
			}
			if !isKept(got) {
				t.Errorf("Later(%v, %v) = %v is not as a time is kept", x, d, got)
			}
			last = got
		}
	}
}

// R3, R4

func TestListIsLeftAsItIs(t *testing.T) {
	whole := []api.Stamp{{T: 9}, {T: zeroBelow, N: 1}, {T: -3}, {T: 5}, {T: -7}}
	before := slices.Clone(whole)
	if a, b := First(whole[1:4]), First(whole[1:4]); a != 1 || b != 1 {
		t.Error("First:", a, b)
	}
	if !slices.EqualFunc(whole, before, sameStamp) {
		t.Error("the list was changed:", whole)
	}
}

// Any two numbers are compared by the same function, though the calls need two kinds of them alone.
func TestCompareEveryKind(t *testing.T) {
	checkKind[int](t, math.MinInt, 0, math.MaxInt)
	checkKind[int8](t, math.MinInt8, 0, math.MaxInt8)
	checkKind[int16](t, math.MinInt16, 0, math.MaxInt16)
	checkKind[int32](t, math.MinInt32, 0, math.MaxInt32)
	checkKind[int64](t, math.MinInt64, 0, math.MaxInt64)
	checkKind[uint](t, 0, 1, math.MaxUint)
	checkKind[uint8](t, 0, 1, math.MaxUint8)
	checkKind[uint16](t, 0, 1, math.MaxUint16)
	checkKind[uint32](t, 0, 1, math.MaxUint32)
	checkKind[uint64](t, 0, 1, math.MaxUint64)
	checkKind(t, float32(-1), 0, float32(infinity), float32(math.NaN()))
	checkKind(t, -infinity, 0, infinity, math.NaN())
}

func checkKind[T number](t *testing.T, rising ...T) {
	t.Helper()
	for i, a := range rising {
		for j, b := range rising {
			if got := compare(a, b); got != sign(i-j) {
				t.Errorf("compare(%v, %v) = %d, of %T", a, b, got, a)
			}
		}
	}
}
