package vm

import (
	"fmt"
	"math"
	"math/big"
	"math/rand"
	"slices"
	"testing"

	"horologe/api"
	"horologe/dice"
)

// do makes an instruction of what it needs, in the order A, B, C.
func do(op int, parts ...int) api.Ins {
	var l [3]int
	copy(l[:], parts)
	return api.Ins{Op: op, A: l[0], B: l[1], C: l[2]}
}

func code(l ...api.Ins) []api.Ins { return l }

// padded makes a program of so many instructions, by others behind it that set register 4.
func padded(n int, l ...api.Ins) []api.Ins {
	for len(l) < n {
		l = append(l, do(api.OSet, 4, len(l)))
	}
	return l
}

func edgeInts() []int {
	return []int{
		math.MinInt, math.MinInt + 1, math.MinInt/2 - 1, math.MinInt / 2, math.MinInt32, -1000, -7, -3, -2, -1,
		0, 1, 2, 3, 7, 8, 120, math.MaxInt32, 1 << 32, 1 << 40, 3037000500, math.MaxInt / 2, math.MaxInt/2 + 1, math.MaxInt - 1, math.MaxInt,
	}
}

// ordinary is an input whose parts can't be taken one for the other.
func ordinary() api.Input {
	return api.Input{Words: []int{30, 31, 32}, Payload: 17, Me: 2, LPs: 5, Seed: 9, Dice: 40}
}

// told is an output as a text, lists without an element being the same.
func told(o api.Output) string {
	return fmt.Sprintf("words %d, sent %d, dice %d, fault %d", o.Words, o.Sent, o.Dice, o.Fault)
}

func checkRun(t *testing.T, p []api.Ins, in api.Input, want api.Output, steps int) {
	t.Helper()
	got, e := Run(p, in)
	if e != api.OK || told(got) != told(want) {
		t.Errorf("Run(%v, %v) = %s, %d, not %s", p, in, told(got), int(e), told(want))
	}
	if got := Steps(p, in); got != steps {
		t.Errorf("Steps(%v, %v) = %d, not %d", p, in, got, steps)
	}
}

// checkFault holds a run that goes wrong against a fault alone.
func checkFault(t *testing.T, p []api.Ins, in api.Input, fault, steps int) {
	t.Helper()
	checkRun(t, p, in, api.Output{Fault: fault}, steps)
}

func checkError(t *testing.T, p []api.Ins, in api.Input, want api.Errno) {
	t.Helper()
	got, e := Run(p, in)
	if e != want || told(got) != told(api.Output{}) {
		t.Errorf("Run(%v, %v) = %s, %d, not %d alone", p, in, told(got), int(e), int(want))
	}
	if got := Steps(p, in); got != 0 {
		t.Errorf("Steps(%v, %v) = %d beside an error", p, in, got)
	}
}

// said tells what is in a register behind a program, by sending it.
func said(t *testing.T, p []api.Ins, in api.Input, register int) int {
	t.Helper()
	other := (register + 1) % 8
	got, e := Run(append(slices.Clone(p), do(api.OSet, other, 0), do(api.OSend, other, other, register)), in)
	if e != api.OK || len(got.Sent) != 1 {
		t.Fatalf("behind %v nothing was said: %s, %d", p, told(got), int(e))
	}
	return got.Sent[0].Payload
}

// stored tells what is in a register behind a program, by storing it.
func stored(t *testing.T, p []api.Ins, in api.Input, register int) int {
	t.Helper()
	other := (register + 1) % 8
	got, e := Run(append(slices.Clone(p), do(api.OSet, other, 0), do(api.OStore, other, register)), in)
	if e != api.OK || len(got.Words) != len(in.Words) {
		t.Fatalf("behind %v nothing was stored: %s, %d", p, told(got), int(e))
	}
	return got.Words[0]
}

func saidAll(t *testing.T, p []api.Ins, in api.Input) [8]int {
	t.Helper()
	var l [8]int
	for i := range l {
		l[i] = said(t, p, in, i)
	}
	return l
}

// cut tells a number as two's complement of 64 bits has it.
func cut(n *big.Int) int {
	half := new(big.Int).Lsh(big.NewInt(1), 63)
	n = new(big.Int).Add(n, half)
	n.Mod(n, new(big.Int).Lsh(half, 1))
	return int(n.Sub(n, half).Int64())
}

// wantCalculated works with numbers of any size. It also tells whether there is such a number.
func wantCalculated(op, x, y int) (int, bool) {
	a, b, z := big.NewInt(int64(x)), big.NewInt(int64(y)), new(big.Int)
	switch op {
	case api.OAdd:
		z.Add(a, b)
	case api.OSub:
		z.Sub(a, b)
	case api.OMul:
		z.Mul(a, b)
	case api.ODiv, api.ORem:
		if b.Sign() == 0 {
			return 0, false
		}
		rest := new(big.Int)
		z.QuoRem(a, b, rest)
		if op == api.ORem {
			z = rest
		}
	case api.OLess:
		if a.Cmp(b) < 0 {
			z.SetInt64(1)
		}
	}
	return cut(z), true
}

// expected is a run, worked out in another way than the package does: registers in a map,
// a place for the handler's end, faults as answers, rolls from their counts, and numbers of any size.
type expected struct {
	registers map[int]int
	words     map[int]int
	sent      []api.Sent
	rolls     int
	in        api.Input
}

const atEnd = -1

// after does an instruction that stands at a place, and tells where it goes on, or how it goes wrong.
func (x *expected) after(at int, i api.Ins) (int, int) {
	a, b, c := x.registers[i.A], x.registers[i.B], x.registers[i.C]
	switch i.Op {
	case api.OHalt:
		return atEnd, 0
	case api.OSet:
		x.registers[i.A] = i.B
	case api.OMove:
		x.registers[i.A] = b
	case api.OAdd, api.OSub, api.OMul, api.ODiv, api.ORem, api.OLess:
		n, is := wantCalculated(i.Op, b, c)
		if !is {
			return at, api.FDiv
		}
		x.registers[i.A] = n
	case api.OJump:
		return i.A, 0
	case api.OZero:
		if a == 0 {
			return i.B, 0
		}
	case api.ORoll:
		if b < 1 {
			return at, api.FRoll
		}
		x.registers[i.A] = dice.Below(dice.Roll(x.in.Seed, x.in.Me, x.in.Dice+x.rolls), b)
		x.rolls++
	case api.OSend:
		if a < 0 || a >= x.in.LPs {
			return at, api.FDst
		}
		if len(x.sent) == 4 {
			return at, api.FSends
		}
		x.sent = append(x.sent, api.Sent{Dst: a, Delay: b, Payload: c})
	case api.OLoad:
		n, is := x.words[b]
		if !is {
			return at, api.FWord
		}
		x.registers[i.A] = n
	case api.OStore:
		if _, is := x.words[a]; !is {
			return at, api.FWord
		}
		x.words[a] = b
	}
	return at + 1, 0
}

// wantRun tells what comes of a program that may be, and how many steps it takes.
func wantRun(p []api.Ins, in api.Input) (api.Output, int) {
	x := expected{registers: map[int]int{0: in.Payload, 1: in.Me, 2: in.LPs, 3: len(in.Words)}, words: map[int]int{}, in: in}
	for i, w := range in.Words {
		x.words[i] = w
	}
	steps := 0
	for at := 0; at != atEnd && at != len(p); steps++ {
		if steps == 120 {
			return api.Output{Fault: api.FFuel}, 120
		}
		next, fault := x.after(at, p[at])
		if fault != 0 {
			return api.Output{Fault: fault}, steps + 1
		}
		at = next
	}
	words := make([]int, len(in.Words))
	for i := range words {
		words[i] = x.words[i]
	}
	return api.Output{Words: words, Sent: x.sent, Dice: in.Dice + x.rolls}, steps
}

// randomIns makes an instruction that may be at a place of a program. What it does not use is anything.
func randomIns(r *rand.Rand, at, length int) api.Ins {
	register := func() int { return r.Intn(8) }
	anything := func() int { return edgeInts()[r.Intn(len(edgeInts()))] }
	place := func() int {
		if r.Intn(4) > 0 {
			// Forward, so that not all programs go round for ever.
			return at + 1 + r.Intn(length-at)
		}
		return r.Intn(length + 1)
	}
	switch op := r.Intn(15); op {
	case api.OHalt:
		if at*2 > length {
			return do(op, anything(), anything(), anything())
		}
		return do(api.OSet, register(), r.Intn(6), anything())
	case api.OSet:
		if r.Intn(3) > 0 {
			return do(op, register(), r.Intn(6), anything())
		}
		return do(op, register(), anything(), anything())
	case api.OJump:
		return do(op, place(), anything(), anything())
	case api.OZero:
		return do(op, register(), place(), anything())
	case api.OMove, api.ORoll, api.OLoad, api.OStore:
		return do(op, register(), register(), anything())
	default:
		return do(op, register(), register(), register())
	}
}

// randomProgram begins with registers that are small numbers, or sends to whoever there is.
func randomProgram(r *rand.Rand) []api.Ins {
	p := make([]api.Ins, 1+r.Intn(48))
	ahead := r.Intn(len(p) + 1)
	for i := range p {
		switch {
		case i >= ahead || r.Intn(3) == 0:
			p[i] = randomIns(r, i, len(p))
		case r.Intn(3) > 0:
			p[i] = do(api.OSet, r.Intn(8), 1+r.Intn(3))
		default:
			p[i] = do(api.OSend, 1, r.Intn(8), r.Intn(8))
		}
	}
	return p
}

func randomInt(r *rand.Rand) int {
	switch r.Intn(3) {
	case 0:
		return r.Intn(9)
	case 1:
		return edgeInts()[r.Intn(len(edgeInts()))]
	}
	return int(r.Uint64()) >> r.Intn(64)
}

func randomInput(r *rand.Rand) api.Input {
	in := api.Input{Payload: randomInt(r), Me: r.Intn(6), LPs: 1 + r.Intn(6), Seed: randomInt(r), Dice: r.Intn(100)}
	if r.Intn(10) == 0 {
		in.Me, in.LPs, in.Dice = randomInt(r), randomInt(r), randomInt(r)
	}
	for range r.Intn(9) {
		in.Words = append(in.Words, randomInt(r))
	}
	return in
}

// P7.1

func TestRunExamples(t *testing.T) {
	adds := code(do(api.OLoad, 5, 4), do(api.OAdd, 5, 5, 0), do(api.OStore, 4, 5))
	checkRun(t, adds, ordinary(), api.Output{Words: []int{47, 31, 32}, Dice: 40}, 3)
	checkRun(t, adds, api.Input{Words: []int{2}, Payload: -5}, api.Output{Words: []int{-3}}, 3)
	checkFault(t, code(do(api.OJump, 0)), ordinary(), api.FFuel, 120)
	checkFault(t, code(do(api.OJump, 0)), api.Input{}, api.FFuel, 120)
}

func TestRunThatDoesNothing(t *testing.T) {
	for _, in := range []api.Input{{}, ordinary(), {Words: []int{}}, {Words: make([]int, 8), Dice: -3}} {
		checkRun(t, code(do(api.OHalt)), in, api.Output{Words: in.Words, Dice: in.Dice}, 1)
		checkRun(t, code(do(api.OSet, 0, 1)), in, api.Output{Words: in.Words, Dice: in.Dice}, 1)
		checkRun(t, code(do(api.OJump, 1)), in, api.Output{Words: in.Words, Dice: in.Dice}, 1)
	}
}

func TestRegistersAtFirst(t *testing.T) {
	in := ordinary()
	if got, want := saidAll(t, nil, in), [8]int{17, 2, 5, 3}; got != want {
		t.Errorf("the registers are at first %d, not %d", got, want)
	}
	for n := range 9 {
		in.Words = slices.Repeat([]int{77}, n)
		if got, want := saidAll(t, nil, in), [8]int{17, 2, 5, n}; got != want {
			t.Errorf("of %d words the registers are at first %d, not %d", n, got, want)
		}
	}
	for _, n := range edgeInts() {
		in := api.Input{Words: []int{-50}, Payload: n, Me: n - 1, LPs: n - 2, Seed: 13, Dice: 14}
		for i, want := range [8]int{n, n - 1, n - 2, 1} {
			if got := stored(t, nil, in, i); got != want {
				t.Errorf("of %v the register %d is at first %d, not %d", in, i, got, want)
			}
		}
	}
}

func TestSetAndMove(t *testing.T) {
	for a := range 8 {
		for _, n := range edgeInts() {
			want := [8]int{17, 2, 5, 3}
			want[a] = n
			if got := saidAll(t, code(do(api.OSet, a, n, math.MinInt)), ordinary()); got != want {
				t.Errorf("behind register %d being %d: %d", a, n, got)
			}
			b := (a + 3) % 8
			want[b] = n
			if got := saidAll(t, code(do(api.OSet, a, n), do(api.OMove, b, a, 99)), ordinary()); got != want {
				t.Errorf("behind register %d being register %d, which is %d: %d", b, a, n, got)
			}
		}
		for b := range 8 {
			want := [8]int{17, 2, 5, 3}
			want[a] = want[b]
			if got := saidAll(t, code(do(api.OMove, a, b)), ordinary()); got != want {
				t.Errorf("behind register %d being register %d: %d, not %d", a, b, got, want)
			}
		}
	}
}

func calculations() []int {
	return []int{api.OAdd, api.OSub, api.OMul, api.ODiv, api.ORem, api.OLess}
}

func checkCalculated(t *testing.T, op, x, y, want int) {
	t.Helper()
	p := code(do(api.OSet, 4, x), do(api.OSet, 5, y), do(op, 6, 4, 5))
	if got := said(t, p, ordinary(), 6); got != want {
		t.Errorf("op %d of %d and %d is %d, not %d", op, x, y, got, want)
	}
}

func TestCalculatedExamples(t *testing.T) {
	const least, greatest = math.MinInt, math.MaxInt
	for _, c := range []struct{ op, x, y, want int }{
		{api.OAdd, 2, 3, 5}, {api.OAdd, greatest, 1, least}, {api.OAdd, least, -1, greatest}, {api.OAdd, least, least, 0}, {api.OAdd, greatest, greatest, -2},
		{api.OSub, 2, 3, -1}, {api.OSub, least, 1, greatest}, {api.OSub, greatest, -1, least}, {api.OSub, 0, least, least}, {api.OSub, -1, least, greatest},
		{api.OMul, 2, -3, -6}, {api.OMul, 1 << 32, 1 << 32, 0}, {api.OMul, greatest, 2, -2}, {api.OMul, least, -1, least}, {api.OMul, least, 2, 0}, {api.OMul, 1 << 62, 2, least}, {api.OMul, greatest, greatest, 1},
		{api.ODiv, 7, 2, 3}, {api.ODiv, -7, 2, -3}, {api.ODiv, 7, -2, -3}, {api.ODiv, -7, -2, 3}, {api.ODiv, 1, 2, 0}, {api.ODiv, -1, 2, 0}, {api.ODiv, 0, -5, 0},
		{api.ODiv, least, -1, least}, {api.ODiv, least, 1, least}, {api.ODiv, least, 2, -1 << 62}, {api.ODiv, least, greatest, -1}, {api.ODiv, greatest, -1, -greatest}, {api.ODiv, greatest, least, 0},
		{api.ORem, 7, 2, 1}, {api.ORem, -7, 2, -1}, {api.ORem, 7, -2, 1}, {api.ORem, -7, -2, -1}, {api.ORem, 6, 3, 0}, {api.ORem, -6, 3, 0}, {api.ORem, 0, -5, 0},
		{api.ORem, least, -1, 0}, {api.ORem, least, greatest, -1}, {api.ORem, greatest, least, greatest}, {api.ORem, least, 10, -8},
		{api.OLess, 1, 2, 1}, {api.OLess, 2, 2, 0}, {api.OLess, 3, 2, 0}, {api.OLess, -1, 0, 1}, {api.OLess, least, greatest, 1}, {api.OLess, greatest, least, 0}, {api.OLess, least, least, 0},
	} {
		checkCalculated(t, c.op, c.x, c.y, c.want)
	}
}

func TestCalculatedAtTheEdges(t *testing.T) {
	for _, op := range calculations() {
		for _, x := range edgeInts() {
			for _, y := range edgeInts() {
				if want, is := wantCalculated(op, x, y); is {
					checkCalculated(t, op, x, y, want)
				}
			}
		}
	}
}

// Whichever registers an instruction names, it takes both numbers ahead of changing one, and changes no other.
func TestCalculatedInAnyRegisters(t *testing.T) {
	in := ordinary()
	fill := code(do(api.OSet, 4, 14), do(api.OSet, 5, 15), do(api.OSet, 6, 16), do(api.OSet, 7, 19))
	at := [8]int{17, 2, 5, 3, 14, 15, 16, 19}
	for _, op := range calculations() {
		for a := range 8 {
			for b := range 8 {
				for c := range 8 {
					want := at
					want[a], _ = wantCalculated(op, at[b], at[c])
					p := append(slices.Clone(fill), do(op, a, b, c))
					if got := said(t, p, in, a); got != want[a] {
						t.Errorf("%v makes register %d %d, not %d", p[4], a, got, want[a])
					}
					if other := (a + b + c + 1) % 8; said(t, p, in, other) != want[other] {
						t.Errorf("%v changes register %d", p[4], other)
					}
				}
			}
		}
	}
}

func TestDivisionByZero(t *testing.T) {
	for _, op := range []int{api.ODiv, api.ORem} {
		for _, x := range edgeInts() {
			checkFault(t, code(do(api.OSet, 4, x), do(op, 4, 4, 5), do(api.OHalt)), ordinary(), api.FDiv, 2)
		}
	}
}

func TestHowARunEnds(t *testing.T) {
	in := api.Input{Words: []int{0}}
	store := do(api.OStore, 4, 5)
	one := do(api.OSet, 5, 1)
	two := do(api.OSet, 5, 2)
	for _, c := range []struct {
		what  string
		p     []api.Ins
		word  int
		steps int
	}{
		{"behind the last instruction", code(one, store), 1, 2},
		{"at a halt that is the last one", code(one, store, do(api.OHalt)), 1, 3},
		{"at a halt in the midst", code(one, store, do(api.OHalt), two, store), 1, 3},
		{"at a halt at first", code(do(api.OHalt), one, store), 0, 1},
		{"at the first of two halts", code(one, store, do(api.OHalt), do(api.OHalt)), 1, 3},
		{"by a jump behind the last instruction", code(one, store, do(api.OJump, 5), two, store), 1, 3},
		{"by a jump of the last one to behind itself", code(one, store, do(api.OJump, 3)), 1, 3},
		{"by a jump if 0 behind the last instruction", code(one, store, do(api.OZero, 4, 5), two, store), 1, 3},
		{"by a jump to the last instruction, a halt", code(one, store, do(api.OJump, 5), two, store, do(api.OHalt)), 1, 4},
		{"by a jump to the last instruction", code(one, do(api.OJump, 3), two, store), 1, 3},
		{"behind a jump if 0, of 1", code(one, store, do(api.OZero, 5, 5), two, store), 2, 5},
	} {
		t.Run(c.what, func(t *testing.T) {
			checkRun(t, c.p, in, api.Output{Words: []int{c.word}}, c.steps)
		})
	}
}

// Back to the first instruction as long as word 0, which is counted down, is not 0.
func TestJumpsToTheFirst(t *testing.T) {
	down := code(
		do(api.OSet, 5, 1), do(api.OLoad, 6, 4), do(api.OSub, 6, 6, 5), do(api.OStore, 4, 6),
		do(api.OZero, 6, 6), do(api.OJump, 0))
	for n := 1; n <= 20; n++ {
		checkRun(t, down, api.Input{Words: []int{n}, Dice: 3}, api.Output{Words: []int{0}, Dice: 3}, 6*n-1)
	}
	checkFault(t, down, api.Input{Words: []int{21}}, api.FFuel, 120)
	// The registers stay what they are: at first again the payload is 0, and the way out is free.
	checkRun(t, code(do(api.OZero, 0, 4), do(api.OSet, 0, 0), do(api.OZero, 0, 0), do(api.OSend, 5, 5, 5)), ordinary(),
		api.Output{Words: []int{30, 31, 32}, Dice: 40}, 4)
}

func TestJumpIfZero(t *testing.T) {
	for _, n := range edgeInts() {
		for a := range 8 {
			p := code(do(api.OSet, a, n), do(api.OZero, a, 4, math.MaxInt), do(api.OSet, 7-a, 1), do(api.OHalt), do(api.OSet, 7-a, 2), do(api.OSet, a, n), do(api.OHalt))
			steps := 4
			if n == 0 {
				steps = 5
			}
			if got := Steps(p, ordinary()); got != steps {
				t.Errorf("of register %d being %d a jump if 0 leads to %d steps, not %d", a, n, got, steps)
			}
		}
	}
}

// Every place of a program of every length can be jumped to, that behind the last instruction, too.
func TestJumpsToEveryPlace(t *testing.T) {
	for _, n := range []int{1, 2, 3, 47, 48} {
		for place := 1; place <= n; place++ {
			steps := 1 + n - place
			words := []int{30, 31, 32}
			checkRun(t, padded(n, do(api.OJump, place)), ordinary(), api.Output{Words: words, Dice: 40}, steps)
			checkRun(t, padded(n, do(api.OZero, 7, place)), ordinary(), api.Output{Words: words, Dice: 40}, steps)
		}
	}
}

// waits makes a program that takes so many steps, at least 4, ahead of what is behind it. It leaves register 4 as it is.
func waits(steps int, behind ...api.Ins) []api.Ins {
	rounds := (steps - 1) / 3
	p := code(do(api.OSet, 6, rounds), do(api.OSet, 7, 1), do(api.OSub, 6, 6, 7), do(api.OZero, 6, 5), do(api.OJump, 2))
	for taken := 3*rounds + 1; taken < steps; taken++ {
		p = append(p, do(api.OSet, 5, 0))
	}
	return append(p, behind...)
}

func TestFuel(t *testing.T) {
	in := ordinary()
	want := api.Output{Words: in.Words, Dice: in.Dice}
	for n := 4; n <= 120; n++ {
		checkRun(t, waits(n), in, want, n)
		if n < 120 {
			checkRun(t, waits(n, do(api.OHalt)), in, want, n+1)
		}
	}
	for n := 121; n < 130; n++ {
		checkFault(t, waits(n), in, api.FFuel, 120)
		checkFault(t, waits(n, do(api.OHalt)), in, api.FFuel, 120)
	}
}

// The step that is one too many goes wrong ahead of what it does, whatever that would be.
func TestOneStepTooMany(t *testing.T) {
	for _, last := range []api.Ins{
		do(api.OHalt), do(api.OSet, 0, 1), do(api.OMove, 0, 1), do(api.OAdd, 0, 1, 1), do(api.OLess, 0, 1, 1),
		do(api.OJump, 0), do(api.OZero, 0, 0), do(api.OZero, 4, 0), do(api.OLoad, 0, 4), do(api.OStore, 4, 0), do(api.OSend, 1, 1, 1), do(api.ORoll, 0, 0),
	} {
		checkFault(t, waits(120, last), ordinary(), api.FFuel, 120)
	}
	for _, c := range faultsAtOnce() {
		checkFault(t, waits(120, c.at), ordinary(), api.FFuel, 120)
		checkFault(t, waits(119, c.at), ordinary(), c.fault, 120)
		checkFault(t, waits(118, c.at), ordinary(), c.fault, 119)
	}
	place := len(waits(119)) + 1
	checkRun(t, waits(119, do(api.OJump, place)), ordinary(), api.Output{Words: []int{30, 31, 32}, Dice: 40}, 120)
	checkFault(t, waits(120, do(api.OJump, place)), ordinary(), api.FFuel, 120)
}

type faulty struct {
	at    api.Ins
	fault int
}

// faultsAtOnce are instructions that go wrong of the ordinary input, as long as registers 0 to 4 are what they are at first.
func faultsAtOnce() []faulty {
	return []faulty{
		{do(api.ODiv, 0, 0, 4), api.FDiv}, {do(api.ORem, 0, 0, 4), api.FDiv},
		{do(api.OLoad, 0, 3), api.FWord}, {do(api.OStore, 3, 0), api.FWord},
		{do(api.ORoll, 0, 4), api.FRoll}, {do(api.OSend, 2, 4, 4), api.FDst},
	}
}

func TestFaultsAtOnce(t *testing.T) {
	for _, c := range faultsAtOnce() {
		checkFault(t, code(c.at), ordinary(), c.fault, 1)
		checkFault(t, code(do(api.OSet, 7, 1), c.at, do(api.OHalt)), ordinary(), c.fault, 2)
		for _, d := range faultsAtOnce() {
			checkFault(t, code(c.at, d.at), ordinary(), c.fault, 1)
		}
	}
}

func TestWordsAtEveryPlace(t *testing.T) {
	for n := range 9 {
		in := api.Input{LPs: 1, Dice: 6}
		for i := range n {
			in.Words = append(in.Words, 100+i)
		}
		for _, place := range append(edgeInts(), 4, 5, 6, n-1, n, n+1, -n) {
			loads := code(do(api.OSet, 4, place), do(api.OLoad, 7, 4), do(api.OSend, 5, 5, 7))
			stores := code(do(api.OSet, 4, place), do(api.OSet, 5, -9), do(api.OStore, 4, 5))
			if place < 0 || place >= n {
				checkFault(t, loads, in, api.FWord, 2)
				checkFault(t, stores, in, api.FWord, 3)
				continue
			}
			want := api.Output{Words: slices.Clone(in.Words), Dice: 6}
			want.Words[place] = -9
			checkRun(t, stores, in, want, 3)
			want = api.Output{Words: in.Words, Sent: []api.Sent{sent(0, 0, 100+place)}, Dice: 6}
			checkRun(t, loads, in, want, 3)
		}
	}
}

func TestWordsWithinARun(t *testing.T) {
	// What is stored is what is loaded behind it; the register of the place may be that of the word.
	in := api.Input{Words: []int{0, 50, 2, 3, 4, 5, 6, 1}, LPs: 1}
	p := code(do(api.OSet, 4, 7), do(api.OLoad, 4, 4), do(api.OLoad, 5, 4), do(api.OStore, 4, 4), do(api.OLoad, 6, 4), do(api.OSet, 7, 6), do(api.OStore, 7, 5), do(api.OLoad, 7, 7))
	if got, want := saidAll(t, p, in), [8]int{0, 0, 1, 8, 1, 50, 1, 50}; got != want {
		t.Errorf("the registers are %d, not %d", got, want)
	}
	checkRun(t, p, in, api.Output{Words: []int{0, 1, 2, 3, 4, 5, 50, 1}}, 8)
	for _, n := range edgeInts() {
		if got := stored(t, code(do(api.OLoad, 6, 7)), api.Input{Words: []int{n}}, 6); got != n {
			t.Errorf("the word %d comes back as %d", n, got)
		}
	}
}

func TestRolls(t *testing.T) {
	for _, seed := range []int{math.MinInt, -1, 0, 9, math.MaxInt} {
		for _, me := range []int{math.MinInt, -1, 0, 5, math.MaxInt} {
			for _, count := range []int{math.MinInt, -1, 0, 4, math.MaxInt - 1, math.MaxInt} {
				in := api.Input{Words: []int{0, 0}, Payload: 1000, Me: me, LPs: 1, Seed: seed, Dice: count}
				first, second := dice.Below(dice.Roll(seed, me, count), 1000), dice.Below(dice.Roll(seed, me, count+1), 1000)
				p := code(do(api.ORoll, 6, 0), do(api.ORoll, 0, 0), do(api.OSet, 5, 1), do(api.OStore, 4, 6), do(api.OStore, 5, 0))
				checkRun(t, p, in, api.Output{Words: []int{first, second}, Dice: count + 2}, 5)
			}
		}
	}
	in := ordinary()
	in.Payload = math.MaxInt
	if got, want := said(t, code(do(api.ORoll, 7, 0)), in, 7), dice.Below(dice.Roll(9, 2, 40), math.MaxInt); got != want {
		t.Errorf("the roll below the greatest number is %d, not %d", got, want)
	}
}

func TestRollsOfOneAndBelow(t *testing.T) {
	p := code(do(api.OSet, 4, 55), do(api.ORoll, 4, 0))
	for _, n := range edgeInts() {
		in := ordinary()
		in.Payload = n
		if n < 1 {
			checkFault(t, p, in, api.FRoll, 2)
			continue
		}
		checkRun(t, p, in, api.Output{Words: in.Words, Dice: 41}, 2)
	}
	in := ordinary()
	in.Payload = 1
	if got := said(t, p, in, 4); got != 0 {
		t.Errorf("a roll below 1 is %d", got)
	}
	// A roll of 1 counts as any other does.
	next := said(t, append(slices.Clone(p), do(api.OSet, 6, 1000), do(api.ORoll, 4, 6)), in, 4)
	if want := dice.Below(dice.Roll(9, 2, 41), 1000); next != want {
		t.Errorf("the roll behind a roll of 1 is %d, not %d", next, want)
	}
}

func TestSendsToEveryone(t *testing.T) {
	for _, lps := range append(edgeInts(), 4, 5, 6) {
		for _, dst := range append(edgeInts(), 4, 5, 6, lps-1, lps, lps+1) {
			in := api.Input{Words: []int{8}, Payload: dst, LPs: lps, Dice: 4}
			p := code(do(api.OSet, 5, -70), do(api.OSet, 6, 60), do(api.OSend, 0, 5, 6))
			if dst < 0 || dst >= lps {
				checkFault(t, p, in, api.FDst, 3)
				continue
			}
			checkRun(t, p, in, api.Output{Words: []int{8}, Sent: []api.Sent{sent(dst, -70, 60)}, Dice: 4}, 3)
		}
	}
}

// What is sent is told as it is, whatever it says: it is not looked into here.
func TestSendsAnything(t *testing.T) {
	for _, delay := range edgeInts() {
		for _, says := range edgeInts() {
			p := code(do(api.OSet, 6, delay), do(api.OSet, 7, says), do(api.OSend, 1, 6, 7), do(api.OSet, 6, 0), do(api.OSet, 7, 0))
			want := api.Output{Words: []int{30, 31, 32}, Sent: []api.Sent{sent(2, delay, says)}, Dice: 40}
			checkRun(t, p, ordinary(), want, 5)
		}
	}
	// One register may be all three.
	checkRun(t, code(do(api.OSend, 3, 3, 3)), ordinary(), api.Output{Words: []int{30, 31, 32}, Sent: []api.Sent{sent(3, 3, 3)}, Dice: 40}, 1)
}

// sends makes instructions that send so many events, to process 0, 1 and so on.
func sends(n int) []api.Ins {
	p := code(do(api.OSet, 7, 1))
	for range n {
		p = append(p, do(api.OSend, 4, 0, 2), do(api.OAdd, 4, 4, 7), do(api.OSub, 0, 0, 7), do(api.OAdd, 2, 2, 2))
	}
	return p
}

// sent makes an event of its parts.
func sent(dst, delay, payload int) api.Sent {
	return api.Sent{Dst: dst, Delay: delay, Payload: payload}
}

func TestFourthAndFifthSend(t *testing.T) {
	all := []api.Sent{sent(0, 17, 5), sent(1, 16, 10), sent(2, 15, 20), sent(3, 14, 40)}
	for n := range 5 {
		p := sends(n)
		checkRun(t, p, ordinary(), api.Output{Words: []int{30, 31, 32}, Sent: all[:n], Dice: 40}, len(p))
	}
	four := sends(4)
	for _, fifth := range []api.Ins{do(api.OSend, 6, 6, 6), do(api.OSend, 4, 4, 4), do(api.OSend, 1, 1, 1)} {
		checkFault(t, append(slices.Clone(four), fifth), ordinary(), api.FSends, len(four)+1)
		checkFault(t, append(slices.Clone(four), fifth, fifth, do(api.OHalt)), ordinary(), api.FSends, len(four)+1)
	}
	for _, dst := range []int{math.MinInt, -1, 5, 6, math.MaxInt} {
		p := append(slices.Clone(four), do(api.OSet, 6, dst), do(api.OSend, 6, 1, 1))
		checkFault(t, p, ordinary(), api.FDst, len(p))
	}
	// Many more are sent in a loop.
	checkFault(t, code(do(api.OSend, 1, 1, 1), do(api.OJump, 0)), ordinary(), api.FSends, 9)
}

func TestProgramsThatMayNotBe(t *testing.T) {
	checkError(t, nil, ordinary(), api.ErrModel)
	checkError(t, []api.Ins{}, ordinary(), api.ErrModel)
	for n := 1; n <= 48; n++ {
		checkRun(t, padded(n), ordinary(), api.Output{Words: []int{30, 31, 32}, Dice: 40}, n)
		checkRun(t, padded(n, do(api.OHalt)), ordinary(), api.Output{Words: []int{30, 31, 32}, Dice: 40}, 1)
	}
	for _, n := range []int{49, 50, 96, 120, 121, 1000} {
		checkError(t, padded(n), ordinary(), api.ErrModel)
		checkError(t, padded(n, do(api.OHalt)), ordinary(), api.ErrModel)
	}
}

func TestInstructionsThatMayNotBe(t *testing.T) {
	const beside = 8
	wrong := []api.Ins{
		do(-1), do(15), do(math.MinInt), do(math.MaxInt), do(api.OSet, beside), do(api.OSet, -1),
		do(api.OMove, beside, 0), do(api.OMove, 0, beside), do(api.ORoll, 0, -1), do(api.ORoll, -1, 0),
		do(api.OLoad, 0, beside), do(api.OLoad, beside, 0), do(api.OStore, -1, 0), do(api.OStore, 0, beside),
		do(api.OZero, beside, 0), do(api.OZero, 0, -1), do(api.OZero, 0, 4), do(api.OJump, -1), do(api.OJump, 4),
		do(api.OJump, math.MinInt), do(api.OJump, math.MaxInt), do(api.OZero, 0, math.MaxInt),
	}
	for _, op := range append(calculations(), api.OSend) {
		for _, n := range []int{math.MinInt, -1, beside, math.MaxInt} {
			wrong = append(wrong, do(op, n, 0, 0), do(op, 0, n, 0), do(op, 0, 0, n))
		}
	}
	halt := do(api.OHalt)
	for _, x := range wrong {
		// Even where no step comes to.
		for i := range 3 {
			p := code(halt, halt, halt)
			p[i] = x
			checkError(t, p, ordinary(), api.ErrModel)
		}
	}
	// Whether a place may be hangs on how many instructions there are.
	checkError(t, code(do(api.OJump, 2)), ordinary(), api.ErrModel)
	checkRun(t, code(do(api.OJump, 2), halt), ordinary(), api.Output{Words: []int{30, 31, 32}, Dice: 40}, 1)
}

// What an instruction does not use may be anything.
func TestPartsThatAreNotUsed(t *testing.T) {
	for _, n := range edgeInts() {
		p := code(
			do(api.OSet, 4, 1, n), do(api.OMove, 5, 4, n), do(api.ORoll, 6, 4, n), do(api.OLoad, 7, 4, n), do(api.OStore, 6, 5, n),
			do(api.OJump, 6, n, n), do(api.OZero, 6, 7, n), do(api.OHalt, n, n, n), do(api.OJump, 0))
		checkRun(t, p, ordinary(), api.Output{Words: []int{1, 31, 32}, Dice: 41}, 8)
	}
}

func TestTooManyWords(t *testing.T) {
	in := ordinary()
	for _, n := range []int{9, 10, 16, 100} {
		in.Words = make([]int, n)
		checkError(t, code(do(api.OHalt)), in, api.ErrArg)
		checkError(t, code(do(api.OJump, 0)), in, api.ErrArg)
		// Both errors at once.
		checkError(t, nil, in, api.ErrModel)
		checkError(t, padded(49), in, api.ErrModel)
		checkError(t, code(do(api.OHalt), do(15)), in, api.ErrModel)
	}
	// Room that is not used does not count.
	in.Words = make([]int, 8, 100)
	checkRun(t, code(do(api.OHalt)), in, api.Output{Words: make([]int, 8), Dice: 40}, 1)
}

func TestRunsWorkedOutInAnotherWay(t *testing.T) {
	r := rand.New(rand.NewSource(1))
	faults, steps, sendings := map[int]int{}, map[int]int{}, map[int]int{}
	for range 40000 {
		p, in := randomProgram(r), randomInput(r)
		want, taken := wantRun(p, in)
		checkRun(t, p, in, want, taken)
		faults[want.Fault]++
		steps[taken]++
		sendings[len(want.Sent)]++
		if t.Failed() {
			return
		}
	}
	// The programs are worth the while only if they come to everything there is.
	for _, fault := range []int{0, api.FFuel, api.FDiv, api.FWord, api.FRoll, api.FSends, api.FDst} {
		if faults[fault] < 100 {
			t.Errorf("too few runs go wrong by %d: %v", fault, faults)
		}
	}
	for n := range 5 {
		if sendings[n] < 100 {
			t.Errorf("too few runs send %d: %v", n, sendings)
		}
	}
	if len(steps) < 40 {
		t.Errorf("the runs take too few numbers of steps: %v", steps)
	}
}

// P7.2

// The step that goes wrong is one, too.
func TestStepsOfRunsThatGoWrong(t *testing.T) {
	for _, c := range faultsAtOnce() {
		for n := range 48 {
			p := append(slices.Repeat(code(do(api.OSet, 6, n)), n), c.at)
			checkFault(t, p, ordinary(), c.fault, n+1)
		}
	}
}

func TestStepsAreAtMostFuel(t *testing.T) {
	r := rand.New(rand.NewSource(2))
	for range 20000 {
		p, in := randomProgram(r), randomInput(r)
		out, e := Run(p, in)
		got := Steps(p, in)
		if e != api.OK || got < 1 || got > 120 || out.Fault == api.FFuel && got != 120 {
			t.Fatalf("Steps(%v, %v) = %d, of %s, %d", p, in, got, told(out), int(e))
		}
	}
}

// P7.3

// Whatever was stored, sent and rolled ahead of a fault, the fault is told alone, and the words stay.
func TestNothingComesOfARunThatGoesWrong(t *testing.T) {
	ahead := code(do(api.OSet, 7, 1), do(api.OStore, 4, 7), do(api.OStore, 7, 0), do(api.ORoll, 5, 0), do(api.OSend, 1, 0, 7), do(api.OSend, 4, 0, 7))
	done := api.Output{Words: []int{1, 17, 32}, Sent: []api.Sent{sent(2, 17, 1), sent(0, 17, 1)}, Dice: 41}
	checkRun(t, ahead, ordinary(), done, 6)
	check := func(fault, steps int, l ...api.Ins) {
		t.Helper()
		in := ordinary()
		checkFault(t, append(slices.Clone(ahead), l...), in, fault, steps)
		if want := ordinary().Words; !slices.Equal(in.Words, want) {
			t.Errorf("behind a fault %d the words are %d, not %d", fault, in.Words, want)
		}
	}
	for _, c := range faultsAtOnce() {
		check(c.fault, 7, c.at)
	}
	send := do(api.OSend, 1, 1, 1)
	check(api.FSends, 9, send, send, send)
	check(api.FFuel, 120, do(api.OJump, 6))
}

func TestAsManyWordsAsBefore(t *testing.T) {
	r := rand.New(rand.NewSource(3))
	for range 20000 {
		p, in := randomProgram(r), randomInput(r)
		got, e := Run(p, in)
		if got.Fault == 0 && len(got.Words) != len(in.Words) || got.Fault != 0 && told(got) != told(api.Output{Fault: got.Fault}) || e != api.OK {
			t.Fatalf("Run(%v, %v) = %s, %d", p, in, told(got), int(e))
		}
	}
}

// P7.4

func TestRunAgain(t *testing.T) {
	r := rand.New(rand.NewSource(4))
	type asked struct {
		p     []api.Ins
		in    api.Input
		out   string
		steps int
	}
	var before []asked
	for range 300 {
		p, in := randomProgram(r), randomInput(r)
		out, _ := Run(p, in)
		before = append(before, asked{p, in, told(out), Steps(p, in)})
	}
	// In any order, with others between.
	for range 3000 {
		a := before[r.Intn(len(before))]
		out, e := Run(slices.Clone(a.p), a.in)
		if steps := Steps(a.p, a.in); e != api.OK || told(out) != a.out || steps != a.steps {
			t.Fatalf("Run(%v, %v) came to %s, and then to %s", a.p, a.in, a.out, told(out))
		}
	}
}

func TestWhatIsHandedInStays(t *testing.T) {
	r := rand.New(rand.NewSource(5))
	for range 20000 {
		p, in := randomProgram(r), randomInput(r)
		room := append(slices.Clone(in.Words), 91, 92, 93, 94)
		n := len(in.Words)
		in.Words = room[:n]
		wantRoom, wantProgram := slices.Clone(room), slices.Clone(p)
		out, _ := Run(p, in)
		Steps(p, in)
		// What is answered is new memory, its spare room, too.
		for i := range out.Words {
			out.Words[i]++
		}
		out.Words = append(out.Words, 1, 2, 3, 4)
		if !slices.Equal(room, wantRoom) || !slices.Equal(p, wantProgram) || len(in.Words) != n {
			t.Fatalf("%v, %d became %v, %d", wantProgram, wantRoom, p, room)
		}
	}
}

func TestAnswersStay(t *testing.T) {
	p := append(sends(4), do(api.OSet, 6, 0), do(api.OStore, 6, 7))
	in := ordinary()
	first, _ := Run(p, in)
	before := told(first)
	second, _ := Run(p, in)
	second.Words[1], second.Sent[0].Payload = -1, -1
	in.Words[2], p[0].B = -1, -1
	Run(p, in)
	if got := told(first); got != before {
		t.Errorf("%s became %s", before, got)
	}
}

func TestManyRunsAtOnce(t *testing.T) {
	p, in := append(sends(3), do(api.ORoll, 6, 0), do(api.OSet, 5, 0), do(api.OStore, 5, 6)), ordinary()
	in.Payload = 100
	want, steps := wantRun(p, in)
	if want.Fault != 0 {
		t.Fatal("it goes wrong")
	}
	answers := make(chan string)
	for range 8 {
		go func() {
			for range 200 {
				got, _ := Run(p, in)
				answers <- told(got) + fmt.Sprint(Steps(p, in))
			}
		}()
	}
	for range 8 * 200 {
		if got := <-answers; got != told(want)+fmt.Sprint(steps) {
			t.Errorf("beside others a run comes to %s", got)
		}
	}
}
