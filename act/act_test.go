package act

import (
	"fmt"
	"math"
	"math/big"
	"math/rand"
	"slices"
	"strings"
	"testing"

	"horologe/api"
	"horologe/dice"
	"horologe/vm"
)

const (
	tiny     = math.SmallestNonzeroFloat64
	greatest = math.MaxFloat64
	most     = 1 << 40 // the greatest Sent and Dice
)

var (
	infinity  = math.Inf(1)
	zeroBelow = math.Copysign(0, -1)
)

// noNumbers are quiet and loud ones, of both signs.
func noNumbers() []float64 {
	l := []float64{math.NaN()}
	for _, b := range []uint64{0x7ff0000000000001, 0x7ff8000000000000, 0x7fffffffffffffff} {
		l = append(l, math.Float64frombits(b), math.Float64frombits(b|1<<63))
	}
	return l
}

func edgeInts() []int {
	return []int{
		math.MinInt, math.MinInt + 1, math.MinInt32, -1000, -9, -8, -7, -6, -5, -4, -3, -2, -1,
		0, 1, 2, 3, 4, 5, 6, 7, 8, 9, 1000, math.MaxInt32, 1 << 40, math.MaxInt - 1, math.MaxInt,
	}
}

// do makes an instruction of what it needs, in the order A, B, C.
func do(op int, parts ...int) api.Ins {
	var l [3]int
	copy(l[:], parts)
	return api.Ins{Op: op, A: l[0], B: l[1], C: l[2]}
}

func code(l ...api.Ins) []api.Ins { return l }

func halt() []api.Ins { return code(do(api.OHalt)) }

// toSend makes a program that sends something, one by one.
func toSend(l ...api.Sent) []api.Ins {
	var p []api.Ins
	for _, x := range l {
		p = append(p, do(api.OSet, 5, x.Dst), do(api.OSet, 6, x.Delay), do(api.OSet, 7, x.Payload), do(api.OSend, 5, 6, 7))
	}
	return append(p, do(api.OHalt))
}

// byDelays makes a program that sends to the first process, saying 0, 1 and so on.
func byDelays(delays ...int) []api.Ins {
	var l []api.Sent
	for k, d := range delays {
		l = append(l, api.Sent{Delay: d, Payload: k})
	}
	return toSend(l...)
}

func event(t float64, dst, payload int) api.Event {
	return api.Event{Stamp: api.Stamp{T: t, Src: 77, N: -5}, Dst: dst, Payload: payload}
}

func put(t float64, src, n, dst, payload int) api.Event {
	return api.Event{Stamp: api.Stamp{T: t, Src: src, N: n}, Dst: dst, Payload: payload}
}

// toldEvents are events as a text, times by their bits.
func toldEvents(l []api.Event) string {
	var b strings.Builder
	for _, e := range l {
		fmt.Fprintf(&b, " [%x=%g %d %d %d %d]", math.Float64bits(e.T), e.T, e.Src, e.N, e.Dst, e.Payload)
	}
	return b.String()
}

// toldState is a state as a text, words being the same whether nil or empty.
func toldState(s api.State) string {
	return fmt.Sprintf("words %d, sent %d, dice %d", s.Words, s.Sent, s.Dice)
}

// answer is all that Handle answers.
type answer struct {
	s     api.State
	l     []api.Event
	fault int
	e     api.Errno
}

func (a answer) told() string {
	return fmt.Sprintf("%s; events%s; fault %d; error %d", toldState(a.s), toldEvents(a.l), a.fault, int(a.e))
}

func handled(m api.Model, lp int, s api.State, e api.Event) answer {
	var a answer
	a.s, a.l, a.fault, a.e = Handle(m, lp, s, e)
	return a
}

func checkHandled(t *testing.T, m api.Model, lp int, s api.State, e api.Event, want answer) {
	t.Helper()
	if got := handled(m, lp, s, e); got.told() != want.told() {
		t.Errorf("of %v at %d, %v, handling%s: %s, not %s", m, lp, s, toldEvents([]api.Event{e}), got.told(), want.told())
	}
}

// checkWrong holds an event that goes wrong against the state as it was, and the fault.
func checkWrong(t *testing.T, m api.Model, lp int, s api.State, e api.Event, fault int) {
	t.Helper()
	checkHandled(t, m, lp, s, e, answer{s: s, fault: fault})
}

func checkRefused(t *testing.T, m api.Model, lp int, s api.State, e api.Event, want api.Errno) {
	t.Helper()
	checkHandled(t, m, lp, s, e, answer{e: want})
}

// modelOf is a model of one process, its program, and delays.
func modelOf(p []api.Ins, end float64, delays ...float64) api.Model {
	return api.Model{Seed: 3, End: end, Delays: delays, Programs: [][]api.Ins{p}, LPs: []api.LP{{Words: []int{20, 21}}}}
}

// ordinary has more than one of everything. Its processes can't be taken one for the other.
func ordinary() api.Model {
	return api.Model{
		Seed:   7,
		End:    10,
		Delays: []float64{0.5, 2, 1},
		Programs: [][]api.Ins{
			{do(api.OStore, 4, 0), do(api.OSend, 1, 4, 0), do(api.OHalt)},
			{do(api.OSet, 5, 1), do(api.OSet, 6, 2), do(api.OLoad, 7, 4), do(api.OSend, 5, 6, 7), do(api.ORoll, 7, 2), do(api.OStore, 4, 7)},
			{do(api.OSend, 4, 5, 1), do(api.OSend, 4, 6, 3)},
		},
		LPs:  []api.LP{{Program: 2, Words: []int{3, 4}}, {Program: 0, Words: []int{5}}, {Program: 1, Words: []int{6, 7, 8}}, {Program: 2}},
		Init: []api.Init{{T: 2, Dst: 2, Payload: 8}, {T: -1.5, Dst: 0, Payload: -8}, {T: 10.5, Dst: 1}, {T: 2, Dst: 2, Payload: 8}},
	}
}

// wrongModels may not be, each for one reason.
func wrongModels() []api.Model {
	var l []api.Model
	for _, spoil := range []func(*api.Model){
		func(m *api.Model) { m.LPs, m.Init = nil, nil },
		func(m *api.Model) { m.LPs = slices.Repeat([]api.LP{{}}, 7) },
		func(m *api.Model) { m.Programs = nil },
		func(m *api.Model) { m.Programs = append(m.Programs, halt(), halt()) },
		func(m *api.Model) { m.Programs[0] = nil },
		func(m *api.Model) { m.Programs[2] = slices.Repeat(halt(), 49) },
		func(m *api.Model) { m.Programs[1] = code(do(15)) },
		func(m *api.Model) { m.Programs[1] = code(do(api.OJump, 2)) },
		func(m *api.Model) { m.Delays = nil },
		func(m *api.Model) { m.Delays = slices.Repeat([]float64{1}, 9) },
		func(m *api.Model) { m.Delays[2] = 0 },
		func(m *api.Model) { m.Delays[1] = -1 },
		func(m *api.Model) { m.Delays[0] = math.NaN() },
		func(m *api.Model) { m.End = math.NaN() },
		func(m *api.Model) { m.LPs[0].Program = 3 },
		func(m *api.Model) { m.LPs[3].Program = -1 },
		func(m *api.Model) { m.LPs[1].Words = make([]int, 9) },
		func(m *api.Model) { m.Init[0].T = math.NaN() },
		func(m *api.Model) { m.Init[3].Dst = 4 },
		func(m *api.Model) { m.Init[1].Dst = -1 },
		func(m *api.Model) { m.Init = make([]api.Init, 17) },
	} {
		m := ordinary()
		spoil(&m)
		l = append(l, m)
	}
	return append(l, api.Model{})
}

// P8.1

func checkFirst(t *testing.T, m api.Model, lp int, want api.State, wantError api.Errno) {
	t.Helper()
	got, e := First(m, lp)
	if e != wantError || toldState(got) != toldState(want) {
		t.Errorf("First(%v, %d) = %s, %d, not %s, %d", m, lp, toldState(got), int(e), toldState(want), int(wantError))
	}
}

func TestFirst(t *testing.T) {
	m := ordinary()
	checkFirst(t, m, 0, api.State{Words: []int{3, 4}}, api.OK)
	checkFirst(t, m, 1, api.State{Words: []int{5}}, api.OK)
	checkFirst(t, m, 2, api.State{Words: []int{6, 7, 8}}, api.OK)
	checkFirst(t, m, 3, api.State{}, api.OK)
	m.LPs[3].Words = []int{math.MinInt, -1, 0, 1, 2, 3, 4, math.MaxInt}
	checkFirst(t, m, 3, api.State{Words: []int{math.MinInt, -1, 0, 1, 2, 3, 4, math.MaxInt}}, api.OK)
	// Room that is not used is no word.
	m.LPs[0].Words = make([]int, 2, 100)
	checkFirst(t, m, 0, api.State{Words: []int{0, 0}}, api.OK)
}

func TestFirstOfEachAndBeside(t *testing.T) {
	for n := 1; n <= 6; n++ {
		m := modelOf(halt(), 1, 1)
		m.LPs = nil
		for i := range n {
			m.LPs = append(m.LPs, api.LP{Words: []int{10 * i}})
		}
		for _, lp := range edgeInts() {
			if lp >= 0 && lp < n {
				checkFirst(t, m, lp, api.State{Words: []int{10 * lp}}, api.OK)
			} else {
				checkFirst(t, m, lp, api.State{}, api.ErrArg)
			}
		}
	}
}

func TestFirstOfNoModel(t *testing.T) {
	for _, m := range wrongModels() {
		for _, lp := range []int{0, 1, -1, 4, math.MaxInt} {
			checkFirst(t, m, lp, api.State{}, api.ErrModel)
		}
	}
}

func TestFirstIsNewMemory(t *testing.T) {
	m := ordinary()
	room := []int{3, 4, 91, 92}
	m.LPs[0].Words = room[:2]
	got, _ := First(m, 0)
	again, _ := First(m, 0)
	got.Words[0] = -1
	got.Words = append(got.Words, -2, -3)
	if want := []int{3, 4, 91, 92}; !slices.Equal(room, want) {
		t.Errorf("the model's words became %d", room)
	}
	m.LPs[0].Words[1] = -4
	if want := (api.State{Words: []int{3, 4}}); toldState(again) != toldState(want) {
		t.Errorf("a state at first became %s", toldState(again))
	}
}

func checkBegin(t *testing.T, m api.Model, want ...api.Event) {
	t.Helper()
	got, e := Begin(m)
	if e != api.OK || toldEvents(got) != toldEvents(want) {
		t.Errorf("Begin(%v) =%s, %d, not%s", m, toldEvents(got), int(e), toldEvents(want))
	}
}

// As they are listed, not in the order of time; the numbers are those of the model's list.
func TestBegin(t *testing.T) {
	m := ordinary()
	checkBegin(t, m, put(2, -1, 0, 2, 8), put(-1.5, -1, 1, 0, -8), put(2, -1, 3, 2, 8))
	m.End = 10.5
	checkBegin(t, m, put(2, -1, 0, 2, 8), put(-1.5, -1, 1, 0, -8), put(10.5, -1, 2, 1, 0), put(2, -1, 3, 2, 8))
	m.End = 0
	checkBegin(t, m, put(-1.5, -1, 1, 0, -8))
	m.End = -2
	checkBegin(t, m)
	m.Init = nil
	checkBegin(t, m)
	m.Init = []api.Init{}
	checkBegin(t, m)
}

func TestBeginWithAsManyAsMayBe(t *testing.T) {
	m := modelOf(halt(), 100, 1)
	var want []api.Event
	for i := range 16 {
		n := edgeInts()[i]
		m.Init = append(m.Init, api.Init{T: float64(50 - i), Payload: n})
		want = append(want, put(float64(50-i), -1, i, 0, n))
	}
	checkBegin(t, m, want...)
	m.End = 49
	checkBegin(t, m, want[1:]...)
	m.End = 35
	checkBegin(t, m, want[15:]...)
	m.End = math.Nextafter(35, 0)
	checkBegin(t, m)
}

func TestBeginAtTheEndAndJustAbove(t *testing.T) {
	for _, end := range []float64{-greatest, -1, -tiny, 0, zeroBelow, tiny, 1, 1 << 53, greatest} {
		m := modelOf(halt(), end, 1)
		m.Init = []api.Init{{T: math.Nextafter(end, infinity)}, {T: end}, {T: math.Nextafter(end, -infinity)}, {T: infinity}, {T: -infinity}}
		at := end
		if end == 0 {
			at = 0
		}
		checkBegin(t, m, put(at, -1, 1, 0, 0), put(math.Nextafter(end, -infinity), -1, 2, 0, 0), put(-infinity, -1, 4, 0, 0))
	}
}

func TestBeginAtInfinities(t *testing.T) {
	m := modelOf(halt(), infinity, 1)
	m.Init = []api.Init{{T: infinity}, {T: -infinity}, {T: greatest}}
	checkBegin(t, m, put(infinity, -1, 0, 0, 0), put(-infinity, -1, 1, 0, 0), put(greatest, -1, 2, 0, 0))
	m.End = -infinity
	checkBegin(t, m, put(-infinity, -1, 1, 0, 0))
}

// Both zeros are kept as the zero above, and neither is above the other.
func TestBeginAtZeros(t *testing.T) {
	for _, end := range []float64{0, zeroBelow, tiny, 1, infinity} {
		m := modelOf(halt(), end, 1)
		m.Init = []api.Init{{T: zeroBelow, Payload: 1}, {T: 0, Payload: 2}}
		checkBegin(t, m, put(0, -1, 0, 0, 1), put(0, -1, 1, 0, 2))
	}
	m := modelOf(halt(), -tiny, 1)
	m.Init = []api.Init{{T: zeroBelow}, {T: 0}}
	checkBegin(t, m)
}

func TestBeginOfNoModel(t *testing.T) {
	for _, m := range wrongModels() {
		if l, e := Begin(m); e != api.ErrModel || len(l) != 0 {
			t.Errorf("Begin(%v) =%s, %d", m, toldEvents(l), int(e))
		}
	}
}

// P8.2

func TestHandleExample(t *testing.T) {
	m := modelOf(byDelays(0), 3, 0.5)
	s, _ := First(m, 0)
	checkHandled(t, m, 0, s, event(1, 0, 0), answer{s: api.State{Words: []int{20, 21}, Sent: 1}, l: []api.Event{put(1.5, 0, 0, 0, 0)}})
}

func TestHandleOfEachProcess(t *testing.T) {
	m := ordinary()
	s := api.State{Words: []int{40, 41}, Sent: 100, Dice: 5}
	// Each runs its own program, on the state that is handed in, whatever its own words at first were.
	for _, lp := range []int{0, 3} {
		two := []api.Event{put(4.5, lp, 100, 0, lp), put(4.5, lp, 101, 0, 2)}
		checkHandled(t, m, lp, s, event(4, lp, 9), answer{s: api.State{Words: []int{40, 41}, Sent: 102, Dice: 5}, l: two})
	}
	checkHandled(t, m, 1, s, event(4, 1, 9), answer{s: api.State{Words: []int{9, 41}, Sent: 101, Dice: 5}, l: []api.Event{put(4.5, 1, 100, 1, 9)}})
	rolled := dice.Below(dice.Roll(7, 2, 5), 4)
	checkHandled(t, m, 2, s, event(4, 2, 9), answer{s: api.State{Words: []int{rolled, 41}, Sent: 101, Dice: 6}, l: []api.Event{put(5, 2, 100, 1, 40)}})
}

func TestHandleThatSendsNothing(t *testing.T) {
	for _, words := range [][]int{nil, {}, {5}, make([]int, 8)} {
		s := api.State{Words: words, Sent: 4, Dice: 6}
		checkHandled(t, modelOf(halt(), 10, 1), 0, s, event(1, 0, 3), answer{s: s})
	}
	// What it stores and rolls is kept, without an event, too.
	m := modelOf(code(do(api.OStore, 4, 0), do(api.ORoll, 5, 0), do(api.ORoll, 5, 0)), 10, 1)
	checkHandled(t, m, 0, api.State{Words: []int{1, 2}, Sent: 4, Dice: 6}, event(1, 0, 3), answer{s: api.State{Words: []int{3, 2}, Sent: 4, Dice: 8}})
}

func TestHandleThatSendsUpToFour(t *testing.T) {
	sent := []api.Sent{{Dst: 1, Delay: 2, Payload: -3}, {Dst: 0, Delay: 0, Payload: 4}, {Dst: 2, Delay: 1, Payload: math.MaxInt}, {Dst: 1, Delay: 2, Payload: math.MinInt}}
	l := []api.Event{put(7, 1, 50, 1, -3), put(4, 1, 51, 0, 4), put(5, 1, 52, 2, math.MaxInt), put(7, 1, 53, 1, math.MinInt)}
	for n := range 5 {
		m := modelOf(toSend(sent[:n]...), 10, 1, 2, 4)
		m.LPs = make([]api.LP, 3)
		s := api.State{Words: []int{8}, Sent: 50, Dice: 60}
		checkHandled(t, m, 1, s, event(3, 1, 0), answer{s: api.State{Words: []int{8}, Sent: 50 + n, Dice: 60}, l: l[:n]})
	}
}

// What the program is given: the payload, its process, how many there are, how many words; and dice.
func TestHandleRunsTheProgramOnThese(t *testing.T) {
	says := code(do(api.OSend, 4, 4, 0), do(api.OSend, 4, 4, 1), do(api.OSend, 4, 4, 2), do(api.OSend, 4, 4, 3))
	for n := 1; n <= 6; n++ {
		for lp := range n {
			m := modelOf(says, 10, 1)
			m.LPs = make([]api.LP, n)
			got := handled(m, lp, api.State{Words: []int{0, 0, 0}}, event(1, 5, 70+lp))
			want := []api.Event{put(2, lp, 0, 0, 70+lp), put(2, lp, 1, 0, lp), put(2, lp, 2, 0, n), put(2, lp, 3, 0, 3)}
			if toldEvents(got.l) != toldEvents(want) || got.e != api.OK {
				t.Errorf("%d of %d said%s, not%s", lp, n, toldEvents(got.l), toldEvents(want))
			}
		}
	}
}

func TestHandleRolls(t *testing.T) {
	for _, seed := range edgeInts() {
		for _, count := range []int{0, 1, 99, most - 1, most} {
			for _, lp := range []int{0, 5} {
				m := modelOf(code(do(api.ORoll, 5, 0), do(api.OStore, 4, 5)), 10, 1)
				m.Seed, m.LPs = seed, make([]api.LP, 6)
				want := dice.Below(dice.Roll(seed, lp, count), 1000)
				checkHandled(t, m, lp, api.State{Words: []int{-1}, Dice: count}, event(1, 0, 1000), answer{s: api.State{Words: []int{want}, Dice: count + 1}})
			}
		}
	}
}

// To whom an event was, and whose it was, plays no part for whoever handles it.
func TestHandleGoesByTimeAndPayloadAlone(t *testing.T) {
	m, s := ordinary(), api.State{Words: []int{40, 41}, Sent: 100, Dice: 5}
	want := handled(m, 1, s, event(4, 1, 9)).told()
	for _, n := range edgeInts() {
		for _, e := range []api.Event{put(4, n, 0, 1, 9), put(4, 0, n, 1, 9), put(4, 0, 0, n, 9), put(4, n, n, n, 9)} {
			if got := handled(m, 1, s, e).told(); got != want {
				t.Errorf("of%s: %s, not %s", toldEvents([]api.Event{e}), got, want)
			}
		}
	}
}

// placeOf tells which delay is meant, by numbers of any size, whose Mod is never below 0.
func placeOf(number, count int) int {
	return int(new(big.Int).Mod(big.NewInt(int64(number)), big.NewInt(int64(count))).Int64())
}

func TestDelaysByAnyNumber(t *testing.T) {
	for count := 1; count <= 8; count++ {
		var delays []float64
		for i := range count {
			delays = append(delays, float64(int(1)<<i))
		}
		for _, number := range append(edgeInts(), count-1, count, count+1, -count-1, -count, -count+1, 1000*count, -1000*count) {
			m := modelOf(byDelays(number), 1000, delays...)
			s := api.State{Words: []int{1}, Sent: 2, Dice: 3}
			want := answer{s: api.State{Words: []int{1}, Sent: 3, Dice: 3}, l: []api.Event{put(delays[placeOf(number, count)], 0, 2, 0, 0)}}
			checkHandled(t, m, 0, s, event(0, 0, 0), want)
		}
	}
}

// Some of them worked out by hand.
func TestDelaysByHand(t *testing.T) {
	for _, c := range []struct{ number, place int }{
		{0, 0}, {1, 1}, {2, 2}, {3, 0}, {4, 1}, {5, 2}, {6, 0}, {3000001, 1},
		{-1, 2}, {-2, 1}, {-3, 0}, {-4, 2}, {-5, 1}, {-6, 0}, {-3000001, 2},
		{math.MaxInt, 1}, {math.MaxInt - 1, 0}, {math.MinInt, 1}, {math.MinInt + 1, 2},
	} {
		m := modelOf(byDelays(c.number), 100, 10, 20, 30)
		got := handled(m, 0, api.State{}, event(0, 0, 0))
		if want := float64(10 * (c.place + 1)); len(got.l) != 1 || got.l[0].T != want {
			t.Errorf("the number %d of three delays: %s, not at %g", c.number, got.told(), want)
		}
	}
}

// A delay that is too small, at each place of what is sent: all of it goes wrong.
func TestDelayTooSmall(t *testing.T) {
	const late = 1 << 53
	s := api.State{Words: []int{1, 2}, Sent: 30, Dice: 40}
	for n := 1; n <= 4; n++ {
		for small := range n {
			// The delay 1 is too small there, 2 is not.
			delays := slices.Repeat([]int{1}, n)
			delays[small] = 0
			for _, end := range []float64{infinity, late + 2, late, 0, -infinity} {
				checkWrong(t, modelOf(byDelays(delays...), end, 1, 2), 0, s, event(late, 0, 0), api.FTime)
			}
			delays[small] = 1
			good := handled(modelOf(byDelays(delays...), infinity, 1, 2), 0, s, event(late, 0, 0))
			if good.fault != 0 || len(good.l) != n || good.s.Sent != 30+n || good.l[small].T != late+2 {
				t.Errorf("of delays that are not too small: %s", good.told())
			}
		}
	}
	// A delay that nobody names does no harm.
	checkHandled(t, modelOf(halt(), infinity, tiny), 0, s, event(late, 0, 0), answer{s: s})
}

func TestTheLeastDelaysThatAreNotTooSmall(t *testing.T) {
	for _, at := range []float64{-1 << 53, -3, -1, -tiny, 0, zeroBelow, tiny, 0.5, 1, 1.5, 3, 1 << 40, 1e300} {
		ulp := math.Nextafter(at, infinity) - at
		checkHandled(t, modelOf(byDelays(0), infinity, ulp), 0, api.State{}, event(at, 0, 0),
			answer{s: api.State{Sent: 1}, l: []api.Event{put(at+ulp, 0, 0, 0, 0)}})
		if quarter := ulp / 4; quarter > 0 {
			checkWrong(t, modelOf(byDelays(0), infinity, quarter), 0, api.State{}, event(at, 0, 0), api.FTime)
		}
	}
}

// At the end it is sent; just above it, and far above it, it counts, and is sent to nobody.
func TestAtTheEndAndAbove(t *testing.T) {
	above := math.Nextafter(2, 3)
	all := []api.Event{put(above, 0, 10, 0, 0), put(2, 0, 11, 0, 1), put(100, 0, 12, 0, 2), put(2, 0, 13, 0, 3)}
	for _, end := range []float64{1, math.Nextafter(2, 0), 2, above, 99, 100, infinity} {
		want := answer{s: api.State{Words: []int{5}, Sent: 14, Dice: 1}}
		for _, e := range all {
			if e.T <= end {
				want.l = append(want.l, e)
			}
		}
		m := modelOf(byDelays(1, 0, 2, 0), end, 2, above, 100)
		checkHandled(t, m, 0, api.State{Words: []int{5}, Sent: 10, Dice: 1}, event(0, 0, 0), want)
	}
}

// All four above the end: the state counts them, whatever the end is.
func TestAllAboveTheEnd(t *testing.T) {
	s := api.State{Words: []int{5}, Sent: 10, Dice: 1}
	for _, end := range []float64{-infinity, -greatest, -1, 0, 6, math.Nextafter(7, 0)} {
		for n := range 5 {
			m := modelOf(byDelays(slices.Repeat([]int{0}, n)...), end, 1)
			checkHandled(t, m, 0, s, event(6, 0, 0), answer{s: api.State{Words: []int{5}, Sent: 10 + n, Dice: 1}})
		}
	}
}

func TestInfiniteTimes(t *testing.T) {
	inf, one := []float64{infinity}, []float64{1}
	sent := api.State{Sent: 1}
	for _, c := range []struct {
		at, end float64
		delays  []float64
		want    answer
	}{
		{1, infinity, inf, answer{s: sent, l: []api.Event{put(infinity, 0, 0, 0, 0)}}},
		{1, greatest, inf, answer{s: sent}},
		{greatest, infinity, []float64{greatest}, answer{s: sent, l: []api.Event{put(infinity, 0, 0, 0, 0)}}},
		{greatest, greatest, []float64{greatest}, answer{s: sent}},
		{greatest, infinity, one, answer{fault: api.FTime}},
		{-greatest, infinity, inf, answer{s: sent, l: []api.Event{put(infinity, 0, 0, 0, 0)}}},
		{-greatest, 0, []float64{greatest}, answer{s: sent, l: []api.Event{put(0, 0, 0, 0, 0)}}},
		{infinity, infinity, one, answer{fault: api.FTime}},
		{infinity, infinity, inf, answer{fault: api.FTime}},
		{-infinity, infinity, one, answer{fault: api.FTime}},
		{-infinity, infinity, inf, answer{fault: api.FTime}},
		{-infinity, -infinity, inf, answer{fault: api.FTime}},
	} {
		checkHandled(t, modelOf(byDelays(0), c.end, c.delays...), 0, api.State{}, event(c.at, 0, 0), c.want)
	}
	for _, at := range []float64{infinity, -infinity} {
		s := api.State{Words: []int{1}}
		checkHandled(t, modelOf(code(do(api.OStore, 4, 0)), 0, 1), 0, s, event(at, 0, 6), answer{s: api.State{Words: []int{6}}})
	}
}

func TestZeroTimes(t *testing.T) {
	for _, at := range []float64{0, zeroBelow} {
		for _, d := range []float64{tiny, 0.5, 3, infinity} {
			checkHandled(t, modelOf(byDelays(0), infinity, d), 0, api.State{}, event(at, 0, 0),
				answer{s: api.State{Sent: 1}, l: []api.Event{put(d, 0, 0, 0, 0)}})
		}
		// What is sent at the zero above is not above an end of either zero.
		checkHandled(t, modelOf(byDelays(0), at, 2), 0, api.State{}, event(-2, 0, 0),
			answer{s: api.State{Sent: 1}, l: []api.Event{put(0, 0, 0, 0, 0)}})
		checkHandled(t, modelOf(byDelays(0), at, tiny), 0, api.State{}, event(-tiny, 0, 0),
			answer{s: api.State{Sent: 1}, l: []api.Event{put(0, 0, 0, 0, 0)}})
		checkHandled(t, modelOf(byDelays(0), at, tiny), 0, api.State{}, event(at, 0, 0), answer{s: api.State{Sent: 1}})
	}
}

// An event that is itself above the end is handled as any other.
func TestEventAboveTheEnd(t *testing.T) {
	m := modelOf(append(code(do(api.OStore, 4, 0)), byDelays(0)...), 3, 1)
	s := api.State{Words: []int{1}}
	checkHandled(t, m, 0, s, event(4, 0, 6), answer{s: api.State{Words: []int{6}, Sent: 1}})
}

func TestCountsAtTheirLimits(t *testing.T) {
	four := modelOf(append(code(do(api.OSet, 4, 9), do(api.ORoll, 5, 4), do(api.ORoll, 5, 4)), byDelays(0, 0, 0, 0)...), 10, 1)
	for _, n := range append(edgeInts(), most-4, most-1, most+1, most+2, 2*most) {
		var l []api.Event
		for k := range 4 {
			l = append(l, put(2, 0, n+k, 0, k))
		}
		s := api.State{Words: []int{1}, Sent: n, Dice: 7}
		if n < 0 || n > most {
			checkRefused(t, four, 0, s, event(1, 0, 0), api.ErrArg)
		} else {
			checkHandled(t, four, 0, s, event(1, 0, 0), answer{s: api.State{Words: []int{1}, Sent: n + 4, Dice: 9}, l: l})
		}
		s = api.State{Words: []int{1}, Sent: 7, Dice: n}
		if n < 0 || n > most {
			checkRefused(t, four, 0, s, event(1, 0, 0), api.ErrArg)
		} else {
			got := handled(four, 0, s, event(1, 0, 0))
			if want := (api.State{Words: []int{1}, Sent: 11, Dice: n + 2}); toldState(got.s) != toldState(want) || len(got.l) != 4 {
				t.Errorf("behind %s: %s, not %s", toldState(s), got.told(), toldState(want))
			}
		}
	}
	both := api.State{Sent: most, Dice: most}
	if got := handled(four, 0, both, event(1, 0, 0)); got.s.Sent != most+4 || got.s.Dice != most+2 || got.l[3].N != most+3 {
		t.Errorf("of both at their limits: %s", got.told())
	}
}

func TestWordsUpToEight(t *testing.T) {
	m := modelOf(code(do(api.OStore, 4, 3)), 10, 1)
	for n := range 20 {
		words := slices.Repeat([]int{66}, n)
		s := api.State{Words: words, Sent: 1, Dice: 2}
		switch {
		case n == 0:
			checkWrong(t, m, 0, s, event(1, 0, 0), api.FWord)
		case n <= 8:
			want := slices.Clone(words)
			want[0] = n
			checkHandled(t, m, 0, s, event(1, 0, 0), answer{s: api.State{Words: want, Sent: 1, Dice: 2}})
		default:
			checkRefused(t, m, 0, s, event(1, 0, 0), api.ErrArg)
		}
	}
	// Room that is not used is no word.
	s := api.State{Words: make([]int, 8, 100)}
	checkHandled(t, m, 0, s, event(1, 0, 0), answer{s: api.State{Words: []int{8, 0, 0, 0, 0, 0, 0, 0}}})
	// Too many are refused of a handler that would go wrong, too.
	checkRefused(t, modelOf(code(do(api.OJump, 0)), 10, 1), 0, api.State{Words: make([]int, 9)}, event(1, 0, 0), api.ErrArg)
}

type faulty struct {
	fault int
	last  []api.Ins
}

// faults are how a handler goes wrong, as long as register 4 is 0, register 3 how many words there are,
// and the delay of number 1 too small.
func faults() []faulty {
	send := do(api.OSend, 4, 4, 4)
	return []faulty{
		{api.FDiv, code(do(api.ODiv, 5, 5, 4))},
		{api.FDiv, code(do(api.ORem, 5, 5, 4))},
		{api.FWord, code(do(api.OLoad, 5, 3))},
		{api.FWord, code(do(api.OStore, 3, 5))},
		{api.FRoll, code(do(api.ORoll, 5, 4))},
		{api.FDst, code(do(api.OSend, 2, 4, 4))},
		{api.FSends, code(send, send, send, send, send)},
		{api.FFuel, code(do(api.OJump, 0))},
		{api.FTime, code(do(api.OSet, 5, 1), do(api.OSend, 4, 5, 4))},
	}
}

// joined puts a program behind another, its jumps moved.
func joined(ahead, last []api.Ins) []api.Ins {
	p := slices.Clone(ahead)
	for _, x := range last {
		if x.Op == api.OJump {
			x.A += len(ahead)
		}
		p = append(p, x)
	}
	return p
}

// Whatever was stored, rolled and sent ahead of it, the state is as it was.
func TestHandlersThatGoWrong(t *testing.T) {
	ahead := code(do(api.OStore, 4, 0), do(api.ORoll, 5, 3), do(api.OSend, 4, 4, 0))
	s := api.State{Words: []int{1, 2}, Sent: 30, Dice: 40}
	m := modelOf(ahead, infinity, 8, 1)
	good := answer{s: api.State{Words: []int{6, 2}, Sent: 31, Dice: 41}, l: []api.Event{put(1<<53+8, 0, 30, 0, 6)}}
	checkHandled(t, m, 0, s, event(1<<53, 0, 6), good)
	for _, c := range faults() {
		for _, p := range [][]api.Ins{c.last, joined(ahead, c.last)} {
			checkWrong(t, modelOf(p, infinity, 8, 1), 0, s, event(1<<53, 0, 6), c.fault)
			checkWrong(t, modelOf(p, infinity, 8, 1), 0, api.State{Words: []int{0}, Sent: most, Dice: most}, event(1<<53, 0, 6), c.fault)
		}
	}
}

// The handler's own fault comes first: times are looked for only when it is through.
func TestFaultsAheadOfTimes(t *testing.T) {
	s := api.State{Words: []int{1, 2}, Sent: 30, Dice: 40}
	tooSmall := code(do(api.OSet, 6, 1), do(api.OSend, 4, 6, 4))
	for _, c := range faults() {
		checkWrong(t, modelOf(joined(tooSmall, c.last), infinity, 8, 1), 0, s, event(1<<53, 0, 6), c.fault)
	}
}

func TestHandleRefusesProcesses(t *testing.T) {
	for n := 1; n <= 6; n++ {
		m := modelOf(halt(), 10, 1)
		m.LPs = make([]api.LP, n)
		s := api.State{Words: []int{1}, Sent: 2, Dice: 3}
		for _, lp := range append(edgeInts(), n-1, n, n+1) {
			if lp >= 0 && lp < n {
				checkHandled(t, m, lp, s, event(1, 0, 0), answer{s: s})
			} else {
				checkRefused(t, m, lp, s, event(1, 0, 0), api.ErrArg)
			}
		}
	}
}

func TestHandleRefusesTimes(t *testing.T) {
	s := api.State{Words: []int{1}, Sent: 2, Dice: 3}
	for _, p := range [][]api.Ins{halt(), byDelays(0), code(do(api.OJump, 0))} {
		for _, at := range noNumbers() {
			checkRefused(t, modelOf(p, infinity, 1), 0, s, event(at, 0, 0), api.ErrArg)
		}
	}
}

func TestHandleRefusesModels(t *testing.T) {
	for _, m := range wrongModels() {
		checkRefused(t, m, 0, api.State{}, event(1, 0, 0), api.ErrModel)
		checkRefused(t, m, 1, api.State{Words: []int{1}}, event(1, 0, 0), api.ErrModel)
	}
}

// Each choice of what is wrong, all of them at once, too.
func TestSeveralErrorsAtOnce(t *testing.T) {
	spoil := []func(*api.Model, *int, *api.State, *api.Event){
		func(m *api.Model, _ *int, _ *api.State, _ *api.Event) { m.Delays[0] = 0 },
		func(_ *api.Model, lp *int, _ *api.State, _ *api.Event) { *lp = 4 },
		func(_ *api.Model, _ *int, _ *api.State, e *api.Event) { e.T = math.NaN() },
		func(_ *api.Model, _ *int, s *api.State, _ *api.Event) { s.Words = make([]int, 9) },
		func(_ *api.Model, _ *int, s *api.State, _ *api.Event) { s.Sent = -1 },
		func(_ *api.Model, _ *int, s *api.State, _ *api.Event) { s.Dice = most + 1 },
	}
	for chosen := range 1 << len(spoil) {
		m, lp, s, e := ordinary(), 3, api.State{Words: []int{1}}, event(1, 3, 2)
		for i, f := range spoil {
			if chosen>>i&1 == 1 {
				f(&m, &lp, &s, &e)
			}
		}
		switch {
		case chosen&1 == 1:
			checkRefused(t, m, lp, s, e, api.ErrModel)
		case chosen > 0:
			checkRefused(t, m, lp, s, e, api.ErrArg)
		default:
			checkHandled(t, m, lp, s, e, answer{s: api.State{Words: []int{1}, Sent: 2}, l: []api.Event{put(1.5, 3, 0, 0, 3), put(1.5, 3, 1, 0, 1)}})
		}
	}
}

// randomProgram sends, stores and rolls, and goes wrong now and then.
func randomProgram(r *rand.Rand) []api.Ins {
	var p []api.Ins
	for range 1 + r.Intn(9) {
		n := edgeInts()[r.Intn(len(edgeInts()))]
		switch r.Intn(7) {
		case 0:
			p = append(p, do(api.OSet, 5, r.Intn(2)), do(api.OStore, 5, r.Intn(8)))
		case 1:
			p = append(p, do(api.OSet, 5, 3), do(api.ORoll, 6, 5))
		case 2:
			p = append(p, do(api.OLoad, 5+r.Intn(3), 4), do(api.OAdd, 7, 7, 5))
		case 3:
			if r.Intn(3) == 0 {
				p = append(p, do(api.ODiv, 5, 2, 4+r.Intn(4)))
			}
		default:
			p = append(p, do(api.OSet, 5, n), do(api.OSend, 1, 5, 7))
		}
	}
	return append(p, do(api.OHalt))
}

func randomState(r *rand.Rand) api.State {
	s := api.State{Sent: r.Intn(100), Dice: r.Intn(100)}
	for range 1 + r.Intn(8) {
		s.Words = append(s.Words, r.Intn(9)-4)
	}
	return s
}

// randomModel is one that may be. Some of its delays are too small for later times.
func randomModel(r *rand.Rand) api.Model {
	ends := []float64{-infinity, 0, zeroBelow, 4, 5.5, 100, infinity}
	delays := []float64{0.25, 0.5, 1, 1.5, 2, 3, 1e-17, infinity}
	m := api.Model{Seed: int(r.Uint64()), End: ends[r.Intn(len(ends))]}
	for range 1 + r.Intn(8) {
		m.Delays = append(m.Delays, delays[r.Intn(len(delays))])
	}
	for range 1 + r.Intn(4) {
		m.Programs = append(m.Programs, randomProgram(r))
	}
	for range 1 + r.Intn(6) {
		m.LPs = append(m.LPs, api.LP{Program: r.Intn(len(m.Programs)), Words: randomState(r).Words})
	}
	for range r.Intn(17) {
		m.Init = append(m.Init, api.Init{T: float64(r.Intn(13)-6) / 2, Dst: r.Intn(len(m.LPs)), Payload: r.Intn(9)})
	}
	return m
}

// wantHandled works out what comes of an event in another way than the package does:
// by numbers of any size, and by how floats are, no more.
func wantHandled(m api.Model, lp int, s api.State, e api.Event) answer {
	in := api.Input{Words: s.Words, Payload: e.Payload, Me: lp, LPs: len(m.LPs), Seed: m.Seed, Dice: s.Dice}
	out, _ := vm.Run(m.Programs[m.LPs[lp].Program], in)
	if out.Fault != 0 {
		return answer{s: s, fault: out.Fault}
	}
	want := answer{s: api.State{Words: out.Words, Sent: s.Sent, Dice: out.Dice}}
	for _, x := range out.Sent {
		at := e.T + m.Delays[placeOf(x.Delay, len(m.Delays))]
		if !(at > e.T) {
			return answer{s: s, fault: api.FTime}
		}
		if !(at > m.End) {
			want.l = append(want.l, put(at, lp, want.s.Sent, x.Dst, x.Payload))
		}
		want.s.Sent++
	}
	return want
}

func TestHandlersWorkedOutInAnotherWay(t *testing.T) {
	r := rand.New(rand.NewSource(1))
	seen := map[string]int{}
	for range 40000 {
		m, s := randomModel(r), randomState(r)
		lp, e := r.Intn(len(m.LPs)), event(float64(r.Intn(13)-3)/2, 0, r.Intn(9))
		want := wantHandled(m, lp, s, e)
		checkHandled(t, m, lp, s, e, want)
		if t.Failed() {
			return
		}
		seen[fmt.Sprint("fault ", want.fault)]++
		seen[fmt.Sprint("sent ", len(want.l))]++
		if want.s.Sent > s.Sent+len(want.l) {
			seen["above the end"]++
		}
	}
	// The models are worth the while only if they come to everything that matters here.
	for _, what := range []string{"fault 0", "fault 2", "fault 5", "fault 7", "sent 0", "sent 1", "sent 2", "sent 3", "sent 4", "above the end"} {
		if seen[what] < 100 {
			t.Errorf("too few of %s: %v", what, seen)
		}
	}
}

// R3, of what is handed in and handed out.

// copied has the same in other memory, spare room, too.
func copied(m api.Model) api.Model {
	m.Delays = slices.Clone(m.Delays[:cap(m.Delays)])[:len(m.Delays)]
	m.Programs = slices.Clone(m.Programs)
	for i, p := range m.Programs {
		m.Programs[i] = slices.Clone(p)
	}
	m.LPs = slices.Clone(m.LPs)
	for i, p := range m.LPs {
		m.LPs[i].Words = slices.Clone(p.Words[:cap(p.Words)])[:len(p.Words)]
	}
	m.Init = slices.Clone(m.Init)
	return m
}

func toldModel(m api.Model) string {
	text := fmt.Sprint(m, m.Delays[:cap(m.Delays)])
	for _, p := range m.LPs {
		text += fmt.Sprint(p.Words[:cap(p.Words)])
	}
	return text
}

func TestWhatIsHandedInStays(t *testing.T) {
	r := rand.New(rand.NewSource(2))
	for range 5000 {
		m, s := copied(randomModel(r)), randomState(r)
		room := append(slices.Clone(s.Words), 91, 92, 93)
		s.Words = room[:len(s.Words)]
		wantModel, wantRoom := toldModel(m), slices.Clone(room)
		lp := r.Intn(len(m.LPs))
		got := handled(m, lp, s, event(1, 0, 2))
		for i := range got.s.Words {
			got.s.Words[i]++
		}
		got.s.Words = append(got.s.Words, 1, 2, 3, 4)
		first, _ := First(m, lp)
		first.Words[0]++
		first.Words = append(first.Words, 1, 2, 3, 4)
		l, _ := Begin(m)
		for i := range l {
			l[i] = api.Event{}
		}
		if toldModel(m) != wantModel || !slices.Equal(room, wantRoom) {
			t.Fatalf("%s, %d became %s, %d", wantModel, wantRoom, toldModel(m), room)
		}
	}
}

// What was answered stays, whatever is done with what was handed in, or with another answer.
func TestAnswersStay(t *testing.T) {
	for _, p := range [][]api.Ins{byDelays(0, 0), code(do(api.OJump, 0)), byDelays(1), halt()} {
		m, s := modelOf(p, 10, 1, tiny), api.State{Words: []int{1, 2}}
		m.Init = []api.Init{{T: 1}}
		got := handled(m, 0, s, event(1, 0, 0))
		begun, _ := Begin(m)
		want, wantBegun := got.told(), toldEvents(begun)
		again := handled(m, 0, s, event(1, 0, 0))
		again.s.Words[0] = -1
		for i := range again.l {
			again.l[i].T = -1
		}
		s.Words[1], m.LPs[0].Words[0], m.Init[0].T, p[0] = -1, -1, -1, do(api.OHalt)
		Handle(m, 0, s, event(2, 0, 0))
		Begin(m)
		if got.told() != want || toldEvents(begun) != wantBegun {
			t.Errorf("%s,%s became %s,%s", want, wantBegun, got.told(), toldEvents(begun))
		}
	}
}

func TestManyHandlersAtOnce(t *testing.T) {
	m, s := ordinary(), api.State{Words: []int{40, 41}, Sent: 100, Dice: 5}
	want := wantHandled(m, 2, s, event(4, 2, 9)).told()
	answers := make(chan string)
	for range 8 {
		go func() {
			for range 200 {
				answers <- handled(m, 2, s, event(4, 2, 9)).told()
			}
		}()
	}
	for range 8 * 200 {
		if got := <-answers; got != want {
			t.Errorf("beside others: %s, not %s", got, want)
		}
	}
}

// P8.3

func TestCopy(t *testing.T) {
	for n := range 20 {
		for _, count := range edgeInts() {
			s := api.State{Words: edgeInts()[:n], Sent: count, Dice: -count}
			if got := Copy(s); toldState(got) != toldState(s) || !Same(got, s) {
				t.Errorf("a copy of %s is %s", toldState(s), toldState(got))
			}
		}
	}
	for _, s := range []api.State{{}, {Words: []int{}}} {
		if got := Copy(s); toldState(got) != toldState(api.State{}) {
			t.Errorf("a copy of nothing is %s", toldState(got))
		}
	}
}

func TestCopyIsNewMemory(t *testing.T) {
	room := []int{1, 2, 3, 91, 92}
	s := api.State{Words: room[:3], Sent: 4, Dice: 5}
	c, d := Copy(s), Copy(s)
	c.Words[0], c.Words[2], c.Sent, c.Dice = -1, -1, -1, -1
	c.Words = append(c.Words, -2, -3)
	if want := []int{1, 2, 3, 91, 92}; !slices.Equal(room, want) || s.Sent != 4 || s.Dice != 5 {
		t.Errorf("behind a change of its copy a state is %s, its room %d", toldState(s), room)
	}
	s.Words[1] = -4
	if want := (api.State{Words: []int{1, 2, 3}, Sent: 4, Dice: 5}); toldState(d) != toldState(want) {
		t.Errorf("behind changes beside it a copy is %s", toldState(d))
	}
	// Of no words there is room behind them all the same.
	s = api.State{Words: room[:0]}
	c = Copy(s)
	c.Words = append(c.Words, -5)
	if room[0] != 1 {
		t.Error("a copy without words has the room of its state")
	}
}

// differentStates are all different.
func differentStates() []api.State {
	return []api.State{
		{}, {Words: []int{0}}, {Words: []int{1}}, {Words: []int{0, 0}}, {Words: []int{0, 1}}, {Words: []int{1, 0}},
		{Sent: 1}, {Sent: -1}, {Dice: 1}, {Dice: -1}, {Sent: 1, Dice: 1}, {Words: []int{0}, Sent: 1}, {Words: []int{0}, Dice: 1},
		{Words: []int{1, 2, 3, 4, 5, 6, 7, 8}}, {Words: []int{1, 2, 3, 4, 5, 6, 7, 9}}, {Words: []int{0, 2, 3, 4, 5, 6, 7, 8}},
		{Words: []int{1, 2, 3, 4, 5, 6, 7}}, {Words: []int{1, 2, 3, 4, 5, 6, 7, 8, 9}}, {Words: []int{math.MinInt}}, {Words: []int{math.MaxInt}},
		{Sent: math.MinInt}, {Sent: math.MaxInt}, {Dice: math.MinInt}, {Dice: math.MaxInt}, {Sent: 1 << 32}, {Dice: 1 << 32},
	}
}

func TestSame(t *testing.T) {
	for i, a := range differentStates() {
		for j, b := range differentStates() {
			if got := Same(a, b); got != (i == j) {
				t.Errorf("Same(%s, %s) = %t", toldState(a), toldState(b), got)
			}
		}
	}
	if !Same(api.State{Words: nil, Sent: 1}, api.State{Words: []int{}, Sent: 1}) || !Same(api.State{Words: []int{}}, api.State{}) {
		t.Error("no words are not the same, nil and empty")
	}
	room := []int{1, 2, 3}
	if !Same(api.State{Words: room[:2]}, api.State{Words: []int{1, 2}}) {
		t.Error("room that is not used plays a part")
	}
}

func checkCompare(t *testing.T, a, b api.Event, want int) {
	t.Helper()
	if got, back := Compare(a, b), Compare(b, a); got != want || back != -want {
		t.Errorf("Compare of%s is %d, and %d the other way, not %d", toldEvents([]api.Event{a, b}), got, back, want)
	}
}

// risingTimes are the same as no other of them.
func risingTimes() []float64 {
	return []float64{-infinity, -greatest, -1, -tiny, 0, tiny, 0.5, math.Nextafter(1, 0), 1, math.Nextafter(1, 2), 2, 1 << 53, greatest, infinity, math.NaN()}
}

func signOf(n int) int {
	switch {
	case n < 0:
		return -1
	case n > 0:
		return 1
	}
	return 0
}

// withPart makes an event of which one part alone, from Dst on, is a number.
func withPart(part, n int) api.Event {
	e := put(1, 3, 3, 3, 3)
	*[]*int{&e.Dst, &e.Src, &e.N, &e.Payload}[part] = n
	return e
}

func TestCompareByOnePart(t *testing.T) {
	for i, x := range risingTimes() {
		for j, y := range risingTimes() {
			checkCompare(t, put(x, 1, 2, 3, 4), put(y, 1, 2, 3, 4), signOf(i-j))
		}
	}
	for part := range 4 {
		for i, x := range edgeInts() {
			for j, y := range edgeInts() {
				checkCompare(t, withPart(part, x), withPart(part, y), signOf(i-j))
			}
		}
	}
}

func TestCompareTimesThatAreTheSame(t *testing.T) {
	same := [][]float64{{0, zeroBelow}, noNumbers()}
	for _, l := range same {
		for _, x := range l {
			for _, y := range l {
				checkCompare(t, put(x, 1, 2, 3, 4), put(y, 1, 2, 3, 4), 0)
				checkCompare(t, put(x, 1, 2, 3, 4), put(y, 1, 2, 3, 5), -1)
				checkCompare(t, put(x, 1, 2, 4, 4), put(y, 1, 2, 3, 4), 1)
			}
		}
	}
}

// What is listed first counts most: whatever comes behind it.
func TestCompareByPartsInTheirOrder(t *testing.T) {
	low, high := put(-1, math.MinInt, math.MinInt, math.MinInt, math.MinInt), put(1, math.MaxInt, math.MaxInt, math.MaxInt, math.MaxInt)
	checkCompare(t, put(-1, high.Src, high.N, high.Dst, high.Payload), put(1, low.Src, low.N, low.Dst, low.Payload), -1)
	checkCompare(t, put(0, high.Src, high.N, 5, high.Payload), put(0, low.Src, low.N, 6, low.Payload), -1)
	checkCompare(t, put(0, 5, high.N, 7, high.Payload), put(0, 6, low.N, 7, low.Payload), -1)
	checkCompare(t, put(0, 7, 5, 7, high.Payload), put(0, 7, 6, 7, low.Payload), -1)
	checkCompare(t, put(0, 7, 7, 7, 5), put(0, 7, 7, 7, 6), -1)
}

// smallEvents are all events of a few small parts, as they rise.
func smallEvents() []api.Event {
	l := []api.Event{{}}
	spread := func(n int, set func(e *api.Event, n int)) {
		var all []api.Event
		for _, e := range l {
			for i := range n {
				set(&e, i)
				all = append(all, e)
			}
		}
		l = all
	}
	spread(4, func(e *api.Event, n int) { e.T = []float64{-infinity, 0, 1, math.NaN()}[n] })
	spread(3, func(e *api.Event, n int) { e.Dst = n - 1 })
	spread(3, func(e *api.Event, n int) { e.Src = n - 1 })
	spread(3, func(e *api.Event, n int) { e.N = n - 1 })
	spread(3, func(e *api.Event, n int) { e.Payload = n - 1 })
	return l
}

func TestCompareIsAnOrder(t *testing.T) {
	l := smallEvents()
	for i, a := range l {
		for j, b := range l {
			if got := Compare(a, b); got != signOf(i-j) {
				t.Fatalf("Compare of%s is %d, not %d", toldEvents([]api.Event{a, b}), got, signOf(i-j))
			}
		}
	}
}

// P8.4 and P8.5

// following handles events of a model one behind the other, in their order, so many at most, and looks at each.
func following(m api.Model, count int, look func(s api.State, e api.Event, behind answer)) {
	var states []api.State
	for lp := range m.LPs {
		s, _ := First(m, lp)
		states = append(states, s)
	}
	l, _ := Begin(m)
	for ; count > 0 && len(l) > 0; count-- {
		slices.SortFunc(l, Compare)
		e := l[0]
		behind := handled(m, e.Dst, states[e.Dst], e)
		look(states[e.Dst], e, behind)
		states[e.Dst] = behind.s
		l = append(slices.Clone(l[1:]), behind.l...)
	}
}

func TestWhatIsSentIsLater(t *testing.T) {
	r := rand.New(rand.NewSource(3))
	sent := 0
	for range 2000 {
		m := randomModel(r)
		following(m, 60, func(_ api.State, e api.Event, behind answer) {
			sent += len(behind.l)
			for _, x := range behind.l {
				if !(x.T > e.T) || x.T > m.End || behind.e != api.OK {
					t.Fatalf("an event at %g, with an end of %g, comes to %s", e.T, m.End, behind.told())
				}
			}
		})
	}
	if sent < 10000 {
		t.Errorf("too few were sent: %d", sent)
	}
}

// Events on either side of any time of any size.
func TestWhatIsSentIsLaterAtAnyTime(t *testing.T) {
	r := rand.New(rand.NewSource(4))
	inTime, wrong := 0, 0
	for range 40000 {
		at, d, end := math.Float64frombits(r.Uint64()), math.Abs(math.Float64frombits(r.Uint64())), math.Float64frombits(r.Uint64())
		if r.Intn(2) == 0 {
			end = infinity
		}
		if math.IsNaN(at) || math.IsNaN(d) || math.IsNaN(end) || d == 0 {
			continue
		}
		got := handled(modelOf(byDelays(0), end, d), 0, api.State{}, event(at, 0, 0))
		for _, x := range got.l {
			inTime++
			if !(x.T > at) || x.T > end {
				t.Fatalf("at %g, by %g, with an end of %g: %s", at, d, end, got.told())
			}
		}
		if got.fault == api.FTime {
			wrong++
		}
	}
	if inTime < 5000 || wrong < 5000 {
		t.Errorf("too few are sent, or go wrong: %d, %d", inTime, wrong)
	}
}

// Handler behind handler at one process: numbers go on where they were, those above the end, and what goes wrong, between them.
func TestNumbersHandlerBehindHandler(t *testing.T) {
	// Word 0 counts down: at 0 the handler goes wrong, behind what it has sent.
	p := code(do(api.OLoad, 5, 4), do(api.OSend, 4, 4, 0), do(api.OSet, 6, 1), do(api.OSend, 4, 6, 0), do(api.OSend, 4, 4, 0),
		do(api.ODiv, 7, 6, 5), do(api.OSub, 5, 5, 6), do(api.OStore, 4, 5))
	m := modelOf(p, 50, 1, 100)
	m.LPs = []api.LP{{Words: []int{2}}, {Words: []int{2}}}
	s, _ := First(m, 1)
	for i := range 2 {
		at, n := float64(i), 3*i
		behind := api.State{Words: []int{1 - i}, Sent: n + 3}
		checkHandled(t, m, 1, s, event(at, 1, 4), answer{s: behind, l: []api.Event{put(at+1, 1, n, 0, 4), put(at+1, 1, n+2, 0, 4)}})
		s = handled(m, 1, s, event(at, 1, 4)).s
	}
	checkWrong(t, m, 1, s, event(2, 1, 4), api.FDiv)
	s = handled(m, 1, s, event(2, 1, 4)).s
	s.Words[0] = 1
	checkHandled(t, m, 1, s, event(3, 1, 4), answer{s: api.State{Words: []int{0}, Sent: 9}, l: []api.Event{put(4, 1, 6, 0, 4), put(4, 1, 8, 0, 4)}})
}

func TestNumbersRise(t *testing.T) {
	r := rand.New(rand.NewSource(5))
	for range 2000 {
		m := randomModel(r)
		next, stamps := make([]int, len(m.LPs)), map[api.Stamp]int{}
		following(m, 60, func(s api.State, e api.Event, behind answer) {
			if s.Sent != next[e.Dst] || behind.s.Sent < s.Sent+len(behind.l) || behind.s.Sent > s.Sent+4 {
				t.Fatalf("behind %d sent: %s", next[e.Dst], behind.told())
			}
			for _, x := range behind.l {
				stamps[x.Stamp]++
				if x.Src != e.Dst || x.N < next[e.Dst] || x.N >= behind.s.Sent || stamps[x.Stamp] > 1 {
					t.Fatalf("numbers below %d were given, and then: %s", next[e.Dst], behind.told())
				}
				next[e.Dst] = x.N + 1
			}
			next[e.Dst] = behind.s.Sent
		})
	}
}
