package dice

import (
	"math"
	"math/big"
	"math/rand"
	"testing"
)

// The numbers of the chapter, as texts: the tests work with numbers of any size, and cut them to 64 bits themselves.
const (
	firstFactor  = "bf58476d1ce4e5b9"
	secondFactor = "94d049bb133111eb"
	gapDigits    = "9e3779b97f4a7c15"
)

func hexadecimal(s string) *big.Int {
	n, ok := new(big.Int).SetString(s, 16)
	if !ok {
		panic(s)
	}
	return n
}

// cut tells a number's lowest 64 bits, of one below 0 as two's complement has them.
func cut(n *big.Int) *big.Int {
	return new(big.Int).Mod(n, new(big.Int).Lsh(big.NewInt(1), 64))
}

func xorShifted(z *big.Int, by uint) *big.Int {
	return new(big.Int).Xor(z, new(big.Int).Rsh(z, by))
}

func bigStir(z *big.Int) *big.Int {
	z = cut(new(big.Int).Mul(xorShifted(cut(z), 30), hexadecimal(firstFactor)))
	z = cut(new(big.Int).Mul(xorShifted(z, 27), hexadecimal(secondFactor)))
	return xorShifted(z, 31)
}

func bigBehind(start *big.Int, number int) *big.Int {
	n := new(big.Int).Add(big.NewInt(int64(number)), big.NewInt(1))
	return bigStir(new(big.Int).Add(start, n.Mul(n, hexadecimal(gapDigits))))
}

// wantStir and wantRoll work out in another way what the package does.
func wantStir(z uint64) uint64 {
	return bigStir(new(big.Int).SetUint64(z)).Uint64()
}

func wantRoll(seed, process, count int) uint64 {
	return bigBehind(bigBehind(big.NewInt(int64(seed)), process), count).Uint64()
}

func wantBelow(roll uint64, n int) int {
	return int(new(big.Int).Mod(new(big.Int).SetUint64(roll), big.NewInt(int64(n))).Int64())
}

// inverse tells by which factor an odd one is undone.
func inverse(s string) uint64 {
	return new(big.Int).ModInverse(hexadecimal(s), new(big.Int).Lsh(big.NewInt(1), 64)).Uint64()
}

// unshift undoes the xor of a word with itself shifted right.
func unshift(z uint64, by uint) uint64 {
	got := z
	for done := by; done < 64; done += by {
		got = z ^ got>>by
	}
	return got
}

// unstir tells what was stirred.
func unstir(z uint64) uint64 {
	z = unshift(z, 31) * inverse(secondFactor)
	z = unshift(z, 27) * inverse(firstFactor)
	return unshift(z, 30)
}

// someInts are the ends of the range, the numbers beside 0, and a few others.
func someInts() []int {
	return []int{
		math.MinInt, math.MinInt + 1, math.MinInt + 2, -1 << 32, math.MinInt32, -1000, -3, -2, -1,
		0, 1, 2, 3, 7, 64, 1000, math.MaxInt32, 1 << 32, 1 << 40, math.MaxInt - 2, math.MaxInt - 1, math.MaxInt,
	}
}

func randomInt(r *rand.Rand) int {
	return int(r.Uint64()) >> r.Intn(64)
}

// someWords are each bit alone, all bits but one, runs of bits from below, and any bits.
func someWords(r *rand.Rand) []uint64 {
	l := []uint64{0, math.MaxUint64, 0x9e3779b97f4a7c15, 0x0123456789abcdef}
	for bit := range 64 {
		l = append(l, 1<<bit, ^uint64(1<<bit), 1<<bit-1)
	}
	for range 500 {
		l = append(l, r.Uint64())
	}
	return l
}

// P4.1

func TestStirExamples(t *testing.T) {
	cases := []struct{ z, want uint64 }{
		{0, 0},
		{1, 0x5692161d100b05e5},
		{2, 0xdbd238973a2b148a},
		{1 << 30, 0x2ba0091cc9e3ceff},
		{1 << 31, 0xec105bf588587c9f},
		{1 << 63, 0x25c26ea579cea98a},
		{math.MaxUint64, 0xb4d055fcf2cbbd7b},
		{0x0123456789abcdef, 0xb2c058e4ebb5112c},
		{0x9e3779b97f4a7c15, 0xe220a8397b1dcdaf},
	}
	for _, c := range cases {
		if got := Stir(c.z); got != c.want {
			t.Errorf("Stir(%x) = %x, not %x", c.z, got, c.want)
		}
	}
}

func TestStirAsTheChapterSays(t *testing.T) {
	for _, z := range someWords(rand.New(rand.NewSource(1))) {
		if got, want := Stir(z), wantStir(z); got != want {
			t.Errorf("Stir(%x) = %x, not %x", z, got, want)
		}
	}
}

func TestRollExamples(t *testing.T) {
	cases := []struct {
		seed, process, count int
		want                 uint64
	}{
		{0, 0, 0, 0xa706dd2f4d197e6f},
		{7, 0, 0, 0xb8b4c2977eabce45},
		{7, 0, 1, 0xa65305fd338ec8fe},
		{7, 1, 0, 0x8254fd5b2111dce4},
		{1, 2, 3, 0x0ee3bb459e9e297b},
		{-1, 0, 0, 0x5dc20aa7b2a27137},
		{0, -1, 0, 0xe220a8397b1dcdaf},
		{0, 0, -1, 0x48218226ff3cd4bf},
		{0, -1, -1, 0},
		{-1, -1, -1, 0x4bffd802ebfb15e4},
		{math.MaxInt, 0, 0, 0x69c9d98a86c5cd1e},
		{math.MinInt, 0, 0, 0x86db92e833b0c1a0},
		{0, math.MaxInt, 0, 0x690889ae19fe46b3},
		{0, math.MinInt, 0, 0x86db92e833b0c1a0},
		{0, 0, math.MaxInt, 0x42f83292896bfc97},
		{0, 0, math.MinInt, 0x5385d77ff33b218d},
		{math.MaxInt, math.MaxInt, math.MaxInt, 0xeb31aceb6000bf75},
		{math.MinInt, math.MinInt, math.MinInt, 0x5385d77ff33b218d},
		{math.MinInt, math.MaxInt, -2, 0x336503c6b835bec0},
	}
	for _, c := range cases {
		if got := Roll(c.seed, c.process, c.count); got != c.want {
			t.Errorf("Roll(%d, %d, %d) = %x, not %x", c.seed, c.process, c.count, got, c.want)
		}
	}
}

func checkRoll(t *testing.T, seed, process, count int) {
	t.Helper()
	if got, want := Roll(seed, process, count), wantRoll(seed, process, count); got != want {
		t.Errorf("Roll(%d, %d, %d) = %x, not %x", seed, process, count, got, want)
	}
}

func TestRollAsTheChapterSays(t *testing.T) {
	for _, seed := range someInts() {
		for _, process := range someInts() {
			for _, count := range someInts() {
				checkRoll(t, seed, process, count)
			}
		}
	}
	r := rand.New(rand.NewSource(2))
	for range 2000 {
		checkRoll(t, randomInt(r), randomInt(r), randomInt(r))
	}
}

func TestBelowExamples(t *testing.T) {
	cases := []struct {
		roll uint64
		n    int
		want int
	}{
		{0, 1, 0}, {0, 6, 0}, {5, 6, 5}, {6, 6, 0}, {7, 6, 1}, {100, 7, 2},
		{math.MaxUint64, 1, 0}, {math.MaxUint64, 2, 1}, {math.MaxUint64, 10, 5}, {math.MaxUint64, 256, 255},
		{math.MaxUint64, math.MaxInt, 1},
		{math.MaxUint64 - 1, math.MaxInt, 0},
		{math.MaxUint64 - 2, math.MaxInt, math.MaxInt - 1},
		// Rolls from 2^63 on would be below 0 as ints.
		{1 << 63, math.MaxInt, 1}, {1 << 63, 3, 2}, {1<<63 + 1, 3, 0}, {1 << 63, 10, 8},
		{math.MaxInt, math.MaxInt, 0}, {math.MaxInt - 1, math.MaxInt, math.MaxInt - 1},
		{12345, math.MaxInt, 12345},
	}
	for _, c := range cases {
		if got := Below(c.roll, c.n); got != c.want {
			t.Errorf("Below(%d, %d) = %d, not %d", c.roll, c.n, got, c.want)
		}
	}
}

func TestBelowOfAnyNumber(t *testing.T) {
	r := rand.New(rand.NewSource(3))
	numbers := someInts()
	for range 50 {
		numbers = append(numbers, randomInt(r))
	}
	for _, roll := range someWords(r) {
		for _, n := range numbers {
			got := Below(roll, n)
			switch {
			case n < 1 && got != 0:
				t.Errorf("Below(%x, %d) = %d, not 0", roll, n, got)
			case n >= 1 && (got < 0 || got >= n || got != wantBelow(roll, n)):
				t.Errorf("Below(%x, %d) = %d, not %d", roll, n, got, wantBelow(roll, n))
			}
		}
	}
}

// P4.2

// checkNext rolls once, and tells whether it was the roll of that count.
func checkNext(t *testing.T, d *Dice, seed, process, count, n int) {
	t.Helper()
	if got := d.Count(); got != count {
		t.Errorf("New(%d, %d, ..) is at %d, not at %d", seed, process, got, count)
	}
	want := wantBelow(wantRoll(seed, process, count), n)
	if got, is := d.Next(n); got != want || !is {
		t.Errorf("the roll %d of %d, %d below %d is %d, %t, not %d", count, seed, process, n, got, is, want)
	}
}

// checkNothing asks for what may not be rolled.
func checkNothing(t *testing.T, d *Dice) {
	t.Helper()
	before := d.Count()
	for _, n := range someInts() {
		if n >= 1 {
			continue
		}
		if got, is := d.Next(n); got != 0 || is || d.Count() != before {
			t.Errorf("Next(%d) = %d, %t, and the count is %d, not %d", n, got, is, d.Count(), before)
		}
	}
}

func TestDiceRollFromTheCountOn(t *testing.T) {
	for _, seed := range []int{math.MinInt, -1, 0, 7, math.MaxInt} {
		for _, process := range []int{math.MinInt, -1, 0, 5, math.MaxInt} {
			for _, first := range []int{math.MinInt, -3, 0, 1, 5, 1 << 40, math.MaxInt - 20} {
				d := New(seed, process, first)
				for i, n := range []int{100, 1, 2, 6, math.MaxInt, 1 << 32, 100, 100} {
					checkNext(t, d, seed, process, first+i, n)
				}
			}
		}
	}
}

func TestDiceExample(t *testing.T) {
	d := New(7, 3, 5)
	if got, is := d.Next(1000); got != Below(Roll(7, 3, 5), 1000) || !is || d.Count() != 6 {
		t.Error("the first roll from 5 on:", got, is, d.Count())
	}
	e := New(7, 0, 0)
	for i, want := range []int{0xb8b4c2977eabce45 % 1000, 0xa65305fd338ec8fe % 1000} {
		if got, is := e.Next(1000); got != want || !is || e.Count() != i+1 {
			t.Error("the roll", i, "is", got, is, e.Count())
		}
	}
}

func TestCountOfNewDice(t *testing.T) {
	for _, count := range someInts() {
		d := New(1, 2, count)
		for range 3 {
			if got := d.Count(); got != count {
				t.Errorf("dice from %d on are at %d", count, got)
			}
		}
	}
}

func TestNextOfOne(t *testing.T) {
	d := New(1, 1, 0)
	for i := range 50 {
		if got, is := d.Next(1); got != 0 || !is || d.Count() != i+1 {
			t.Errorf("Next(1) = %d, %t, and the count is %d", got, is, d.Count())
		}
	}
}

func TestNothingIsRolledBelowOne(t *testing.T) {
	for _, first := range []int{math.MinInt, -1, 0, 9, math.MaxInt - 4, math.MaxInt} {
		d := New(3, 2, first)
		checkNothing(t, d)
		for i := range 4 {
			count := int(uint64(first) + uint64(i))
			checkNext(t, d, 3, 2, count, 1000)
			checkNothing(t, d)
		}
	}
}

func TestCountGoesRound(t *testing.T) {
	for _, process := range []int{0, -1, math.MaxInt} {
		d := New(11, process, math.MaxInt-1)
		for _, count := range []int{math.MaxInt - 1, math.MaxInt, math.MinInt, math.MinInt + 1} {
			checkNext(t, d, 11, process, count, 1<<50)
		}
		if got := d.Count(); got != math.MinInt+2 {
			t.Error("the count went round to", got)
		}
	}
	// From -1 on it comes to 0.
	d := New(11, 0, -1)
	checkNext(t, d, 11, 0, -1, 1<<50)
	checkNext(t, d, 11, 0, 0, 1<<50)
}

func TestDiceOfNil(t *testing.T) {
	var d *Dice
	for _, n := range someInts() {
		if got, is := d.Next(n); got != 0 || is {
			t.Errorf("Next(%d) of nil = %d, %t", n, got, is)
		}
		if got := d.Count(); got != 0 {
			t.Errorf("Count of nil = %d", got)
		}
	}
}

// P4.3

func TestRollAgain(t *testing.T) {
	r := rand.New(rand.NewSource(4))
	type asked struct{ seed, process, count int }
	told := map[asked]uint64{}
	for range 3000 {
		a := asked{r.Intn(5) - 2, r.Intn(5) - 2, r.Intn(9) - 4}
		got := Roll(a.seed, a.process, a.count)
		if before, is := told[a]; is && before != got {
			t.Errorf("%v was told as %x, and as %x", a, before, got)
		}
		told[a] = got
	}
	if len(told) != 5*5*9 {
		t.Error("too few were asked for:", len(told))
	}
}

func TestRollWhateverWasRolledAhead(t *testing.T) {
	r := rand.New(rand.NewSource(5))
	for range 300 {
		seed, process, first, steps := randomInt(r), randomInt(r), randomInt(r)>>1, r.Intn(20)
		d := New(seed, process, first)
		for range steps {
			d.Next(1 + r.Intn(1000))
			d.Next(-r.Intn(1000))
		}
		fresh := New(seed, process, first+steps)
		n := 1 + r.Intn(1<<40)
		got, is := d.Next(n)
		again, isAgain := fresh.Next(n)
		if got != again || !is || !isAgain || d.Count() != fresh.Count() {
			t.Errorf("%d, %d at %d: %d, and %d", seed, process, first+steps, got, again)
		}
	}
}

func TestDiceKnowNothingOfEachOther(t *testing.T) {
	r := rand.New(rand.NewSource(6))
	type owner struct{ seed, process, count int }
	owners := []owner{{1, 0, 0}, {1, 0, 0}, {1, 1, 0}, {2, 0, 0}, {1, 0, 7}, {-1, -1, -1}}
	dice := make([]*Dice, len(owners))
	for i, o := range owners {
		dice[i] = New(o.seed, o.process, o.count)
	}
	for range 500 {
		i := r.Intn(len(owners))
		o := &owners[i]
		checkNext(t, dice[i], o.seed, o.process, o.count, 1+r.Intn(1<<40))
		o.count++
	}
}

// P4.4

func TestStirCanBeUndone(t *testing.T) {
	for _, z := range someWords(rand.New(rand.NewSource(7))) {
		if got := unstir(Stir(z)); got != z {
			t.Errorf("%x was stirred to %x, which %x is stirred to, too", z, Stir(z), got)
		}
		if got := Stir(unstir(z)); got != z {
			t.Errorf("%x is stirred to from %x, but that is stirred to %x", z, unstir(z), got)
		}
	}
}

func TestUnlikeWordsAreStirredToUnlike(t *testing.T) {
	from := map[uint64]uint64{}
	words := someWords(rand.New(rand.NewSource(8)))
	for z := range uint64(50000) {
		words = append(words, z, z<<40, ^z)
	}
	for _, z := range words {
		s := Stir(z)
		if other, is := from[s]; is && other != z {
			t.Errorf("%x and %x are both stirred to %x", other, z, s)
		}
		from[s] = z
	}
}

// countOf tells whose count a roll is, which it could not, if another one had the same roll.
func countOf(roll uint64, seed, process int) int {
	w := bigBehind(big.NewInt(int64(seed)), process).Uint64()
	return int((unstir(roll)-w)*inverse(gapDigits) - 1)
}

func TestCountIsKnownByItsRoll(t *testing.T) {
	r := rand.New(rand.NewSource(9))
	counts := someInts()
	for range 20 {
		counts = append(counts, randomInt(r))
	}
	for _, seed := range []int{math.MinInt, -1, 0, 7, math.MaxInt} {
		for _, process := range []int{math.MinInt, -1, 0, 5, math.MaxInt} {
			for _, count := range counts {
				if got := countOf(Roll(seed, process, count), seed, process); got != count {
					t.Errorf("of %d, %d the counts %d and %d have one roll", seed, process, count, got)
				}
			}
		}
	}
}

func TestUnlikeCountsHaveUnlikeRolls(t *testing.T) {
	for _, seed := range []int{math.MinInt, -1, 0, 7, math.MaxInt} {
		counts := map[uint64]int{}
		for i := range 20000 {
			for _, count := range []int{i, ^i, math.MaxInt - i, math.MinInt + i, 100000 + i<<32} {
				roll := Roll(seed, 3, count)
				if other, is := counts[roll]; is && other != count {
					t.Errorf("of %d the counts %d and %d have one roll", seed, other, count)
				}
				counts[roll] = count
			}
		}
	}
}

// Dice that roll far on never come to a roll twice: their words stay as they were made.
func TestRollsOfDiceStayApart(t *testing.T) {
	d := New(7, 0, -10000)
	seen := map[int]int{}
	for count := -10000; count < 10000; count++ {
		got, _ := d.Next(math.MaxInt)
		if other, is := seen[got]; is {
			t.Fatalf("the counts %d and %d have one chance", other, count)
		}
		seen[got] = count
	}
}

// Processes of one seed have words that are stirred from unlike ones, and so unlike first rolls.
func TestProcessesAreApart(t *testing.T) {
	for _, seed := range []int{math.MinInt, -1, 0, 7, math.MaxInt} {
		processes := map[uint64]int{}
		for _, process := range someInts() {
			roll := Roll(seed, process, 0)
			if other, is := processes[roll]; is {
				t.Errorf("of %d the processes %d and %d roll alike", seed, other, process)
			}
			processes[roll] = process
		}
	}
}
