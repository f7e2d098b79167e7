package plain

import (
	"fmt"
	"math"
	"math/rand"
	"slices"
	"strings"
	"testing"

	"horologe/act"
	"horologe/api"
	"horologe/dice"
)

const (
	tiny     = math.SmallestNonzeroFloat64
	greatest = math.MaxFloat64
)

var (
	infinity  = math.Inf(1)
	zeroBelow = math.Copysign(0, -1)
)

// do makes an instruction of what it needs, in the order A, B, C.
func do(op int, parts ...int) api.Ins {
	var l [3]int
	copy(l[:], parts)
	return api.Ins{Op: op, A: l[0], B: l[1], C: l[2]}
}

func code(l ...api.Ins) []api.Ins { return l }

func halt() []api.Ins { return code(do(api.OHalt)) }

// toItself makes a program that sends what it hears to its own process so often, by the first delay.
func toItself(count int) []api.Ins {
	return append(slices.Repeat(code(do(api.OSend, 1, 4, 0)), count), do(api.OHalt))
}

// toNext makes a program that adds what it hears to word 0, and sends it to the next process, behind the last one to the first.
func toNext() []api.Ins {
	return code(
		do(api.OLoad, 5, 4), do(api.OAdd, 5, 5, 0), do(api.OStore, 4, 5),
		do(api.OSet, 5, 1), do(api.OAdd, 5, 5, 1), do(api.ORem, 5, 5, 2), do(api.OSend, 5, 4, 0),
	)
}

// byPayload makes a program that sends to each of these processes, by the delay whose number it hears, saying the same.
func byPayload(dst ...int) []api.Ins {
	var p []api.Ins
	for _, d := range dst {
		p = append(p, do(api.OSet, 5, d), do(api.OSend, 5, 0, 0))
	}
	return append(p, do(api.OHalt))
}

func put(t float64, src, n, dst, payload int) api.Event {
	return api.Event{Stamp: api.Stamp{T: t, Src: src, N: n}, Dst: dst, Payload: payload}
}

// good are events that were handled, and did not go wrong.
func good(l ...api.Event) []api.Done {
	var all []api.Done
	for _, e := range l {
		all = append(all, api.Done{Event: e})
	}
	return all
}

func words(l ...int) api.State { return api.State{Words: l} }

// modelOf is a model of so many processes with one word each, all of one program, and a delay of 1.
func modelOf(processes int, p []api.Ins, end float64, init ...api.Init) api.Model {
	m := api.Model{Seed: 3, End: end, Delays: []float64{1}, Programs: [][]api.Ins{p}, Init: init}
	for i := range processes {
		m.LPs = append(m.LPs, api.LP{Words: []int{100 * i}})
	}
	return m
}

// ordinary has more than one of everything. Its processes can't be taken one for the other.
func ordinary() api.Model {
	return api.Model{
		Seed:     7,
		End:      10,
		Delays:   []float64{0.5, 2, 1},
		Programs: [][]api.Ins{toNext(), toItself(1), halt()},
		LPs:      []api.LP{{Program: 0, Words: []int{3, 4}}, {Program: 1, Words: []int{5}}, {Program: 0, Words: []int{6, 7, 8}}, {Program: 2}},
		Init:     []api.Init{{T: 2, Dst: 2, Payload: 8}, {T: -1.5, Dst: 0, Payload: -8}, {T: 10.5, Dst: 1}, {T: 2, Dst: 2, Payload: 8}},
	}
}

// toldDone is what was handled as a text, times by their bits.
func toldDone(l []api.Done) string {
	var b strings.Builder
	for _, x := range l {
		fmt.Fprintf(&b, " [%x=%g %d %d %d %d fault %d]", math.Float64bits(x.T), x.T, x.Src, x.N, x.Dst, x.Payload, x.Fault)
	}
	return b.String()
}

// toldState is a state as a text, words being the same whether nil or empty.
func toldState(s api.State) string {
	return fmt.Sprintf("words %d, sent %d, dice %d", s.Words, s.Sent, s.Dice)
}

// toldLooks is all that can be looked at of a simulation of six processes at most.
func toldLooks(s *Sim) string {
	text := fmt.Sprintf("waiting %d, handled %d", s.Waiting(), s.Handled())
	for lp := range 6 {
		text += "; " + toldState(s.State(lp))
	}
	return text
}

func begun(t *testing.T, m api.Model) *Sim {
	t.Helper()
	s, e := New(m)
	if e != api.OK || s == nil {
		t.Fatalf("New(%v) = %v, %d", m, s, int(e))
	}
	return s
}

// checkRun runs a simulation by single steps and, from its beginning, at once.
func checkRun(t *testing.T, m api.Model, want []api.Done) {
	t.Helper()
	s := begun(t, m)
	var steps []api.Done
	// One more than there is to do, and no further.
	for range len(want) + 1 {
		if x, is := s.Step(); is {
			steps = append(steps, x)
		}
	}
	if toldDone(steps) != toldDone(want) {
		t.Errorf("of %v steps handle%s, not%s", m, toldDone(steps), toldDone(want))
	}
	if got := begun(t, m).Run(len(want) + 1); toldDone(got) != toldDone(want) {
		t.Errorf("of %v a run handles%s, not%s", m, toldDone(got), toldDone(want))
	}
}

func checkLooks(t *testing.T, s *Sim, waiting, handled int, states ...api.State) {
	t.Helper()
	if s.Waiting() != waiting || s.Handled() != handled {
		t.Errorf("%d wait, %d were handled, not %d, %d", s.Waiting(), s.Handled(), waiting, handled)
	}
	for lp, want := range states {
		if got := s.State(lp); toldState(got) != toldState(want) {
			t.Errorf("the state of %d is %s, not %s", lp, toldState(got), toldState(want))
		}
	}
}

// P9.1

func TestNewIsAtItsBeginning(t *testing.T) {
	s := begun(t, ordinary())
	checkLooks(t, s, 3, 0, words(3, 4), words(5), words(6, 7, 8), words())
}

func TestNewOfOneAndOfAsManyAsMayBe(t *testing.T) {
	for n := 1; n <= 6; n++ {
		for events := range 17 {
			m := modelOf(n, halt(), 20)
			var want []api.Event
			for i := range events {
				m.Init = append(m.Init, api.Init{T: float64(i), Dst: i % n, Payload: -i})
				want = append(want, put(float64(i), -1, i, i%n, -i))
			}
			s := begun(t, m)
			checkLooks(t, s, events, 0)
			for lp := range n {
				if got := s.State(lp); toldState(got) != toldState(words(100*lp)) {
					t.Errorf("the state of %d is %s at first", lp, toldState(got))
				}
			}
			checkRun(t, m, good(want...))
		}
	}
}

func TestNoEventsAtFirst(t *testing.T) {
	for _, init := range [][]api.Init{nil, {}} {
		m := modelOf(2, toItself(4), infinity)
		m.Init = init
		checkRun(t, m, nil)
		checkLooks(t, begun(t, m), 0, 0, words(0), words(100))
	}
}

// Those above the end never wait, but the others keep the numbers of the model's list.
func TestEventsAtFirstAboveTheEnd(t *testing.T) {
	above := math.Nextafter(2, 3)
	init := []api.Init{{T: above, Payload: 1}, {T: 2, Payload: 2}, {T: infinity, Payload: 3}, {T: 1, Payload: 4}, {T: 3, Payload: 5}}
	m := modelOf(1, halt(), 2, init...)
	checkLooks(t, begun(t, m), 2, 0, words(0))
	checkRun(t, m, good(put(1, -1, 3, 0, 4), put(2, -1, 1, 0, 2)))
	m.End = above
	checkLooks(t, begun(t, m), 3, 0, words(0))
	checkRun(t, m, good(put(1, -1, 3, 0, 4), put(2, -1, 1, 0, 2), put(above, -1, 0, 0, 1)))
	m.End = math.Nextafter(1, 0)
	checkLooks(t, begun(t, m), 0, 0, words(0))
	checkRun(t, m, nil)
}

// wrongModels may not be, each for one reason.
func wrongModels() []api.Model {
	var l []api.Model
	for _, spoil := range []func(*api.Model){
		func(m *api.Model) { m.LPs, m.Init = nil, nil },
		func(m *api.Model) { m.LPs = slices.Repeat([]api.LP{{}}, 7) },
		func(m *api.Model) { m.Programs = nil },
		func(m *api.Model) { m.Programs = append(m.Programs, halt(), halt()) },
		func(m *api.Model) { m.Programs[0] = nil },
		func(m *api.Model) { m.Programs[2] = slices.Repeat(halt(), 49) },
		func(m *api.Model) { m.Programs[1] = code(do(15)) },
		func(m *api.Model) { m.Programs[1] = code(do(api.OJump, 2)) },
		func(m *api.Model) { m.Delays = nil },
		func(m *api.Model) { m.Delays = slices.Repeat([]float64{1}, 9) },
		func(m *api.Model) { m.Delays[2] = 0 },
		func(m *api.Model) { m.Delays[1] = -1 },
		func(m *api.Model) { m.Delays[0] = math.NaN() },
		func(m *api.Model) { m.End = math.NaN() },
		func(m *api.Model) { m.LPs[0].Program = 3 },
		func(m *api.Model) { m.LPs[3].Program = -1 },
		func(m *api.Model) { m.LPs[1].Words = make([]int, 9) },
		func(m *api.Model) { m.Init[0].T = math.NaN() },
		func(m *api.Model) { m.Init[3].Dst = 4 },
		func(m *api.Model) { m.Init[1].Dst = -1 },
		func(m *api.Model) { m.Init = make([]api.Init, 17) },
	} {
		m := ordinary()
		spoil(&m)
		l = append(l, m)
	}
	return append(l, api.Model{})
}

func TestNewOfNoModel(t *testing.T) {
	for _, m := range wrongModels() {
		s, e := New(m)
		if s != nil || e != api.ErrModel {
			t.Errorf("New(%v) = %v, %d", m, s, int(e))
		}
		checkNothing(t, s)
	}
}

// P9.2

func TestExample(t *testing.T) {
	m := modelOf(1, toItself(1), 2, api.Init{T: 1, Payload: 7})
	m.Delays[0] = 0.5
	checkRun(t, m, good(put(1, -1, 0, 0, 7), put(1.5, 0, 0, 0, 7), put(2, 0, 1, 0, 7)))
}

func TestHandlersThatSendNothing(t *testing.T) {
	init := []api.Init{{T: 3, Payload: 1}, {T: 1, Payload: 2}, {T: 2, Payload: 3}}
	m := modelOf(1, halt(), 10, init...)
	checkRun(t, m, good(put(1, -1, 1, 0, 2), put(2, -1, 2, 0, 3), put(3, -1, 0, 0, 1)))
	m = modelOf(3, halt(), 10, init...)
	for i := range m.Init {
		m.Init[i].Dst = 2 - i
	}
	checkRun(t, m, good(put(1, -1, 1, 1, 2), put(2, -1, 2, 0, 3), put(3, -1, 0, 2, 1)))
	s := begun(t, m)
	s.Run(3)
	checkLooks(t, s, 0, 3, words(0), words(100), words(200))
}

func TestHandlersThatSendOne(t *testing.T) {
	m := modelOf(1, toItself(1), 3, api.Init{T: 0.5, Payload: 1}, api.Init{T: 0, Payload: 2})
	checkRun(t, m, good(
		put(0, -1, 1, 0, 2), put(0.5, -1, 0, 0, 1), put(1, 0, 0, 0, 2), put(1.5, 0, 1, 0, 1),
		put(2, 0, 2, 0, 2), put(2.5, 0, 3, 0, 1), put(3, 0, 4, 0, 2),
	))
	s := begun(t, m)
	s.Run(7)
	// What would come above the end counts as sent, and does not wait.
	checkLooks(t, s, 0, 7, api.State{Words: []int{0}, Sent: 7})
}

// Each level is four times as wide as the one ahead of it; what is sent at the last one comes above the end.
func TestHandlersThatSendFour(t *testing.T) {
	s := begun(t, modelOf(1, toItself(4), 4, api.Init{T: 0, Payload: 6}))
	want, waiting, handled := put(0, -1, 0, 0, 6), 1, 0
	for level, width := range []int{1, 4, 16, 64, 256} {
		for range width {
			if handled > 0 {
				want = put(float64(level), 0, handled-1, 0, 6)
			}
			if x, is := s.Step(); !is || x.Event != want || x.Fault != 0 {
				t.Fatalf("a step handles%s, not%s", toldDone([]api.Done{x}), toldDone(good(want)))
			}
			waiting, handled = waiting-1, handled+1
			if level < 4 {
				waiting += 4
			}
			checkLooks(t, s, waiting, handled, api.State{Words: []int{0}, Sent: 4 * handled})
		}
	}
	checkLooks(t, s, 0, 1+4+16+64+256)
}

func TestSeveralProcessesInTurn(t *testing.T) {
	m := modelOf(3, toNext(), 6.5, api.Init{T: 0.5, Dst: 1, Payload: 7})
	s := begun(t, m)
	want := good(
		put(0.5, -1, 0, 1, 7), put(1.5, 1, 0, 2, 7), put(2.5, 2, 0, 0, 7), put(3.5, 0, 0, 1, 7),
		put(4.5, 1, 1, 2, 7), put(5.5, 2, 1, 0, 7), put(6.5, 0, 1, 1, 7),
	)
	checkRun(t, m, want)
	s.Run(2)
	checkLooks(t, s, 1, 2, words(0), api.State{Words: []int{107}, Sent: 1}, api.State{Words: []int{207}, Sent: 1})
	s.Run(5)
	checkLooks(t, s, 0, 7, api.State{Words: []int{14}, Sent: 2}, api.State{Words: []int{121}, Sent: 3}, api.State{Words: []int{214}, Sent: 2})
}

// Each process has a program, words and dice of its own.
func TestProcessesApart(t *testing.T) {
	rolls := code(do(api.ORoll, 5, 0), do(api.OStore, 4, 5))
	m := modelOf(3, rolls, 10)
	m.Programs = append(m.Programs, code(do(api.OStore, 4, 0)))
	m.LPs[1].Program = 1
	for i := range 9 {
		m.Init = append(m.Init, api.Init{T: float64(i), Dst: i % 3, Payload: 1000})
	}
	s := begun(t, m)
	rolled := func(lp, count int) api.State {
		return api.State{Words: []int{dice.Below(dice.Roll(3, lp, count-1), 1000)}, Dice: count}
	}
	s.Run(4)
	checkLooks(t, s, 5, 4, rolled(0, 2), words(1000), rolled(2, 1))
	s.Run(5)
	checkLooks(t, s, 0, 9, rolled(0, 3), words(1000), rolled(2, 3))
}

func TestStepWhenNothingWaits(t *testing.T) {
	for _, m := range []api.Model{modelOf(2, halt(), 3), modelOf(2, toNext(), 3, api.Init{T: 1, Payload: 4}), modelOf(2, halt(), 0, api.Init{T: 1})} {
		s := begun(t, m)
		s.Run(100)
		want := toldLooks(s)
		for range 3 {
			if x, is := s.Step(); is || x != (api.Done{}) {
				t.Errorf("behind all of %v a step handles%s, %t", m, toldDone([]api.Done{x}), is)
			}
			if l := s.Run(1); len(l) != 0 {
				t.Errorf("behind all of %v a run handles%s", m, toldDone(l))
			}
			if got := toldLooks(s); got != want {
				t.Errorf("behind all of %v it is %s, and then %s", m, want, got)
			}
		}
	}
}

func TestRunOfSoMany(t *testing.T) {
	m := modelOf(2, toNext(), 5, api.Init{T: 1, Payload: 4})
	all := begun(t, m).Run(100)
	if len(all) != 5 {
		t.Fatalf("all of %v is%s", m, toldDone(all))
	}
	for _, n := range []int{math.MinInt, math.MinInt32, -6, -1, 0, 1, 2, 4, 5, 6, 7, 1000, math.MaxInt32, math.MaxInt} {
		s := begun(t, m)
		count := min(max(n, 0), 5)
		if got := s.Run(n); toldDone(got) != toldDone(all[:count]) {
			t.Errorf("Run(%d) handles%s, not%s", n, toldDone(got), toldDone(all[:count]))
		}
		if waiting := min(1, 5-count); s.Waiting() != waiting || s.Handled() != count {
			t.Errorf("behind Run(%d) %d wait, %d were handled", n, s.Waiting(), s.Handled())
		}
		if got := s.Run(100); toldDone(got) != toldDone(all[count:]) {
			t.Errorf("what is left behind Run(%d) is%s, not%s", n, toldDone(got), toldDone(all[count:]))
		}
	}
}

// P9.2, of handlers that go wrong

type faulty struct {
	fault int
	last  []api.Ins
}

// faults are how a handler goes wrong from a place of its program on, as long as register 4 is 0,
// register 3 how many words there are, and the delay of number 1 too small.
func faults(place int) []faulty {
	send := do(api.OSend, 4, 4, 4)
	return []faulty{
		{api.FDiv, code(do(api.ODiv, 5, 5, 4))},
		{api.FDiv, code(do(api.ORem, 5, 5, 4))},
		{api.FWord, code(do(api.OLoad, 5, 3))},
		{api.FWord, code(do(api.OStore, 3, 5))},
		{api.FRoll, code(do(api.ORoll, 5, 4))},
		{api.FDst, code(do(api.OSend, 2, 4, 4))},
		{api.FSends, code(send, send, send, send, send)},
		{api.FFuel, code(do(api.OJump, place))},
		{api.FTime, code(do(api.OSet, 5, 1), do(api.OSend, 4, 5, 4))},
	}
}

// wrongFor makes a program that stores and rolls what it hears, and sends it to process 0; of what is 1 it goes wrong behind that.
func wrongFor(last []api.Ins) []api.Ins {
	ahead := code(do(api.OSend, 4, 4, 0), do(api.ORoll, 5, 0), do(api.OStore, 4, 5), do(api.OSet, 5, 1), do(api.OSub, 5, 0, 5))
	// Of anything else it jumps past the last part.
	return slices.Concat(ahead, code(do(api.OZero, 5, 7), do(api.OHalt)), last)
}

func TestHandlersThatGoWrong(t *testing.T) {
	const at = 1 << 53
	for _, c := range faults(7) {
		m := modelOf(2, wrongFor(c.last), at+12,
			api.Init{T: at, Dst: 1, Payload: 50}, api.Init{T: at + 4, Dst: 1, Payload: 1}, api.Init{T: at + 8, Dst: 1, Payload: 60})
		m.Delays = []float64{100, 1}
		rolled := func(below, count int) int { return dice.Below(dice.Roll(3, 1, count), below) }
		s := begun(t, m)
		s.Run(1)
		first := api.State{Words: []int{rolled(50, 0)}, Sent: 1, Dice: 1}
		checkLooks(t, s, 2, 1, words(0), first)
		x, is := s.Step()
		if want := (api.Done{Event: put(at+4, -1, 1, 1, 1), Fault: c.fault}); !is || x != want {
			t.Errorf("it handled%s, %t, not%s", toldDone([]api.Done{x}), is, toldDone([]api.Done{want}))
		}
		checkLooks(t, s, 1, 2, words(0), first)
		// What comes behind it goes on from there, and has no fault.
		if got, want := s.Run(9), good(put(at+8, -1, 2, 1, 60)); toldDone(got) != toldDone(want) {
			t.Errorf("behind a fault of %d:%s, not%s", c.fault, toldDone(got), toldDone(want))
		}
		checkLooks(t, s, 0, 3, words(0), api.State{Words: []int{rolled(60, 1)}, Sent: 2, Dice: 2})
	}
}

// All of them go wrong: none sends, and each is counted.
func TestAllGoWrong(t *testing.T) {
	for _, c := range faults(0) {
		m := modelOf(3, c.last, infinity)
		m.Delays = []float64{100, 1}
		var want []api.Done
		for i := range 16 {
			m.Init = append(m.Init, api.Init{T: 1 << 53, Dst: i % 3, Payload: i})
		}
		for lp := range 3 {
			for i := lp; i < 16; i += 3 {
				want = append(want, api.Done{Event: put(1<<53, -1, i, lp, i), Fault: c.fault})
			}
		}
		checkRun(t, m, want)
		s := begun(t, m)
		for i := range 16 {
			checkLooks(t, s, 16-i, i, words(0), words(100), words(200))
			s.Step()
		}
		checkLooks(t, s, 0, 16, words(0), words(100), words(200))
	}
}

func TestInfiniteTimes(t *testing.T) {
	m := modelOf(1, toItself(1), infinity, api.Init{T: infinity, Payload: 1}, api.Init{T: 1e300, Payload: 2}, api.Init{T: -infinity, Payload: 3})
	m.Delays[0] = greatest
	checkRun(t, m, []api.Done{
		{Event: put(-infinity, -1, 2, 0, 3), Fault: api.FTime},
		{Event: put(1e300, -1, 1, 0, 2)},
		{Event: put(infinity, -1, 0, 0, 1), Fault: api.FTime},
		{Event: put(infinity, 0, 0, 0, 2), Fault: api.FTime},
	})
}

// P9.3

// stateInTurn is that of a process behind so many events that went from one to the next.
func stateInTurn(lp, processes, events int) api.State {
	if lp < 0 || lp >= processes {
		return api.State{}
	}
	count := 0
	for i := range events {
		if i%processes == lp {
			count++
		}
	}
	return api.State{Words: []int{100*lp + count}, Sent: count}
}

func TestStateOfEachAndBeside(t *testing.T) {
	for n := 1; n <= 6; n++ {
		s := begun(t, modelOf(n, toNext(), 100, api.Init{T: 0, Payload: 1}))
		s.Run(2*n + 1)
		for _, lp := range []int{math.MinInt, math.MinInt32, -7, -n, -2, -1, 0, 1, 2, 3, 4, 5, 6, 7, n - 1, n, n + 1, math.MaxInt32, 1 << 32, math.MaxInt} {
			want := stateInTurn(lp, n, 2*n+1)
			if got := s.State(lp); toldState(got) != toldState(want) {
				t.Errorf("of %d processes that of %d is %s, not %s", n, lp, toldState(got), toldState(want))
			}
		}
	}
}

func checkNothing(t *testing.T, s *Sim) {
	t.Helper()
	if x, is := s.Step(); is || x != (api.Done{}) {
		t.Errorf("a step of nil handles%s, %t", toldDone([]api.Done{x}), is)
	}
	for _, n := range []int{math.MinInt, -1, 0, 1, 2, math.MaxInt} {
		if l := s.Run(n); len(l) != 0 {
			t.Errorf("Run(%d) of nil handles%s", n, toldDone(l))
		}
		if got := s.State(n); toldState(got) != toldState(api.State{}) {
			t.Errorf("State(%d) of nil is %s", n, toldState(got))
		}
	}
	checkLooks(t, s, 0, 0)
}

func TestNil(t *testing.T) { checkNothing(t, nil) }

// P9.4

// By hand: at time 2 there are events of all that may tell them apart, put down in another order.
func TestEqualTimes(t *testing.T) {
	m := modelOf(3, byPayload(1, 0, 1), 2,
		api.Init{T: 2, Dst: 1, Payload: 3}, api.Init{T: 2, Dst: 0, Payload: 4}, api.Init{T: 2, Dst: 1, Payload: 1}, api.Init{T: 2, Dst: 0, Payload: 2},
		api.Init{T: 0.5, Dst: 2, Payload: 0}, api.Init{T: 1, Dst: 1, Payload: 1}, api.Init{T: 1.5, Dst: 0, Payload: 2},
	)
	m.Delays = []float64{1.5, 1, 0.5, 10, 11}
	checkRun(t, m, good(
		put(0.5, -1, 4, 2, 0), put(1, -1, 5, 1, 1), put(1.5, -1, 6, 0, 2),
		put(2, -1, 1, 0, 4), put(2, -1, 3, 0, 2), put(2, 0, 1, 0, 2), put(2, 1, 1, 0, 1), put(2, 2, 1, 0, 0),
		put(2, -1, 0, 1, 3), put(2, -1, 2, 1, 1),
		put(2, 0, 0, 1, 2), put(2, 0, 2, 1, 2), put(2, 1, 0, 1, 1), put(2, 1, 2, 1, 1), put(2, 2, 0, 1, 0), put(2, 2, 2, 1, 0),
	))
}

// Of events at first with one time the one that is for a lesser process goes ahead, then the one that is listed ahead; what they say plays no part.
func TestEqualTimesAtFirst(t *testing.T) {
	m := modelOf(6, halt(), 1)
	for i := range 16 {
		m.Init = append(m.Init, api.Init{T: 1, Dst: 5 - i%6, Payload: -i})
	}
	var want []api.Done
	for lp := range 6 {
		for i := 5 - lp; i < 16; i += 6 {
			want = append(want, api.Done{Event: put(1, -1, i, lp, -i)})
		}
	}
	checkRun(t, m, want)
}

// Zeros of both signs are one time, and kept as the zero above.
func TestZeroTimes(t *testing.T) {
	for _, end := range []float64{0, zeroBelow, 0.25} {
		m := modelOf(2, toItself(1), end,
			api.Init{T: 0, Dst: 1, Payload: 1}, api.Init{T: zeroBelow, Dst: 1, Payload: 2}, api.Init{T: 0, Dst: 0, Payload: 3},
			api.Init{T: zeroBelow, Dst: 0, Payload: 4}, api.Init{T: -0.5, Dst: 0, Payload: 5}, api.Init{T: tiny, Dst: 0, Payload: 6}, api.Init{T: -tiny, Dst: 1, Payload: 7},
		)
		m.Delays[0] = 0.5
		want := good(
			put(-0.5, -1, 4, 0, 5), put(-tiny, -1, 6, 1, 7), put(0, -1, 2, 0, 3), put(0, -1, 3, 0, 4), put(0, 0, 0, 0, 5),
			put(0, -1, 0, 1, 1), put(0, -1, 1, 1, 2), put(tiny, -1, 5, 0, 6),
		)
		if end == 0 {
			want = want[:7]
		}
		checkRun(t, m, want)
	}
}

// randomProgram sends, stores and rolls, and goes wrong now and then.
func randomProgram(r *rand.Rand) []api.Ins {
	var p []api.Ins
	for range 1 + r.Intn(9) {
		switch r.Intn(7) {
		case 0:
			p = append(p, do(api.OSet, 5, r.Intn(2)), do(api.OStore, 5, r.Intn(8)))
		case 1:
			p = append(p, do(api.OSet, 5, 3), do(api.ORoll, 6, 5))
		case 2:
			p = append(p, do(api.OLoad, 5+r.Intn(3), 4), do(api.OAdd, 7, 7, 5))
		case 3:
			if r.Intn(3) == 0 {
				p = append(p, do(api.ODiv, 5, 2, 4+r.Intn(4)))
			}
		default:
			// To one that is rolled, of as many as there are.
			p = append(p, do(api.ORoll, 5, 2), do(api.OSet, 6, r.Intn(20)-10), do(api.OSend, 5, 6, 7))
		}
	}
	return append(p, do(api.OHalt))
}

// randomModel is one that may be. Many of its events have the same times.
func randomModel(r *rand.Rand) api.Model {
	ends := []float64{-infinity, 0, zeroBelow, 4, 5.5, 100, infinity}
	delays := []float64{0.25, 0.5, 1, 1.5, 2, 3, 1e-17, infinity}
	m := api.Model{Seed: int(r.Uint64()), End: ends[r.Intn(len(ends))]}
	for range 1 + r.Intn(8) {
		m.Delays = append(m.Delays, delays[r.Intn(len(delays))])
	}
	for range 1 + r.Intn(4) {
		m.Programs = append(m.Programs, randomProgram(r))
	}
	for range 1 + r.Intn(6) {
		p := api.LP{Program: r.Intn(len(m.Programs))}
		for range r.Intn(9) {
			p.Words = append(p.Words, r.Intn(9)-4)
		}
		m.LPs = append(m.LPs, p)
	}
	for range r.Intn(17) {
		m.Init = append(m.Init, api.Init{T: float64(r.Intn(13)-6) / 2, Dst: r.Intn(len(m.LPs)), Payload: r.Intn(9)})
	}
	return m
}

// isAhead tells whether an event is less than another one, without act.
func isAhead(a, b api.Event) bool {
	if a.T != b.T {
		return a.T < b.T
	}
	x, y := []int{a.Dst, a.Src, a.N, a.Payload}, []int{b.Dst, b.Src, b.N, b.Payload}
	return slices.Compare(x, y) < 0
}

// wanted simulates in another way than the package does: all that waits stands in a list in order.
type wanted struct {
	m                   api.Model
	states              []api.State
	line                []api.Event
	begun, sent, faults int
}

func (w *wanted) join(e api.Event) {
	at := len(w.line)
	for at > 0 && isAhead(e, w.line[at-1]) {
		at--
	}
	w.line = slices.Insert(w.line, at, e)
}

func wantedOf(m api.Model) *wanted {
	w := &wanted{m: m}
	for lp := range m.LPs {
		w.states = append(w.states, words(m.LPs[lp].Words...))
	}
	for i, x := range m.Init {
		if x.T <= m.End {
			// A sum with the zero above is never the zero below.
			w.join(put(x.T+0, -1, i, x.Dst, x.Payload))
			w.begun++
		}
	}
	return w
}

func (w *wanted) step() (api.Done, bool) {
	if len(w.line) == 0 {
		return api.Done{}, false
	}
	e := w.line[0]
	w.line = slices.Clone(w.line[1:])
	s, l, fault, _ := act.Handle(w.m, e.Dst, w.states[e.Dst], e)
	w.states[e.Dst] = s
	for _, x := range l {
		w.join(x)
	}
	w.sent += len(l)
	if fault != 0 {
		w.faults++
	}
	return api.Done{Event: e, Fault: fault}, true
}

func (w *wanted) run(n int) []api.Done {
	var l []api.Done
	for range n {
		if x, is := w.step(); is {
			l = append(l, x)
		}
	}
	return l
}

// Step by step, all looks included; and P9.4 and P9.6 of each.
func TestSimulatedInAnotherWay(t *testing.T) {
	r := rand.New(rand.NewSource(1))
	steps, same, faults := 0, 0, 0
	for range 2000 {
		m := randomModel(r)
		s, w := begun(t, m), wantedOf(m)
		last := api.Event{Stamp: api.Stamp{T: -infinity}, Dst: -1}
		for range 60 {
			got, is := s.Step()
			want, wantIs := w.step()
			if is != wantIs || toldDone([]api.Done{got}) != toldDone([]api.Done{want}) {
				t.Fatalf("of %v a step handles%s, %t, not%s, %t", m, toldDone([]api.Done{got}), is, toldDone([]api.Done{want}), wantIs)
			}
			if !is {
				break
			}
			if act.Compare(last, got.Event) > 0 || isAhead(got.Event, last) {
				t.Fatalf("of %v%s is handled behind%s", m, toldDone([]api.Done{got}), toldDone(good(last)))
			}
			if last.T == got.T {
				same++
			}
			last = got.Event
			steps++
			if s.Waiting()+s.Handled() != w.begun+w.sent {
				t.Fatalf("of %v %d wait, %d were handled, but there were %d, and %d sent", m, s.Waiting(), s.Handled(), w.begun, w.sent)
			}
			checkLooks(t, s, len(w.line), s.Handled(), w.states...)
			if t.Failed() {
				return
			}
		}
		faults += w.faults
	}
	// The models are worth the while only if they come to what matters here.
	if steps < 20000 || same < 2000 || faults < 1000 {
		t.Errorf("too few steps, equal times, or faults: %d, %d, %d", steps, same, faults)
	}
}

// P9.5

// inParts handles so many in runs and steps of any number, with looks between them.
func inParts(r *rand.Rand, s *Sim, count int) []api.Done {
	var l []api.Done
	for len(l) < count && s.Waiting() > 0 {
		toldLooks(s)
		if r.Intn(3) == 0 {
			x, _ := s.Step()
			l = append(l, x)
		} else {
			l = append(l, s.Run(min(r.Intn(7)-1, count-len(l)))...)
		}
	}
	return l
}

func TestInHowManyRuns(t *testing.T) {
	r := rand.New(rand.NewSource(2))
	for range 1000 {
		m := randomModel(r)
		whole := begun(t, m)
		want := whole.Run(60)
		for range 4 {
			s := begun(t, m)
			if got := inParts(r, s, 60); toldDone(got) != toldDone(want) {
				t.Fatalf("of %v parts handle%s, not%s", m, toldDone(got), toldDone(want))
			}
			if got, want := toldLooks(s), toldLooks(whole); got != want {
				t.Fatalf("of %v parts come to %s, not %s", m, got, want)
			}
		}
	}
}

// P9.6

// What was handled, and then what was left, are just those that there were at first, or that were sent.
func TestNothingIsLostOrDoubled(t *testing.T) {
	r := rand.New(rand.NewSource(3))
	ended := 0
	for range 1000 {
		m := randomModel(r)
		s, w := begun(t, m), wantedOf(m)
		n := r.Intn(80)
		got, want := s.Run(n), w.run(n)
		checkLooks(t, s, w.begun+w.sent-len(want), len(want))
		got, want = append(got, s.Run(80-n)...), append(want, w.run(80-n)...)
		checkLooks(t, s, w.begun+w.sent-len(want), len(want))
		stamps := map[api.Event]int{}
		for _, x := range got {
			stamps[x.Event]++
		}
		for _, x := range want {
			stamps[x.Event]--
		}
		for e, count := range stamps {
			if count != 0 {
				t.Fatalf("of %v there is%s too often by %d", m, toldDone(good(e)), count)
			}
		}
		if t.Failed() {
			return
		}
		if s.Waiting() == 0 && len(got) > 0 {
			ended++
		}
	}
	if ended < 200 {
		t.Errorf("too few came to an end: %d", ended)
	}
}

func TestLongRun(t *testing.T) {
	s := begun(t, modelOf(6, toNext(), 5999, api.Init{T: 0, Payload: 1}))
	l := s.Run(6001)
	if len(l) != 6000 || l[5999].Event != put(5999, 4, 999, 5, 1) {
		t.Errorf("of 6000 there are %d", len(l))
	}
	for lp := range 6 {
		if got, want := s.State(lp), (api.State{Words: []int{100*lp + 1000}, Sent: 1000}); toldState(got) != toldState(want) {
			t.Errorf("the state of %d is %s, not %s", lp, toldState(got), toldState(want))
		}
	}
	checkLooks(t, s, 0, 6000)
}

// R3, of what is handed in and handed out.

// withRoom has the same in other memory, and spare room behind every list.
func withRoom(m api.Model) api.Model {
	m.Delays = append(slices.Clone(m.Delays), 91, 92)[:len(m.Delays)]
	m.Programs = append(slices.Clone(m.Programs), halt(), halt())[:len(m.Programs)]
	for i, p := range m.Programs {
		m.Programs[i] = append(slices.Clone(p), do(91), do(92))[:len(p)]
	}
	m.LPs = append(slices.Clone(m.LPs), api.LP{}, api.LP{})[:len(m.LPs)]
	for i, p := range m.LPs {
		m.LPs[i].Words = append(slices.Clone(p.Words), 91, 92)[:len(p.Words)]
	}
	m.Init = append(slices.Clone(m.Init), api.Init{T: 91}, api.Init{T: 92})[:len(m.Init)]
	return m
}

// toldModel is a model as a text, with the spare room of its lists.
func toldModel(m api.Model) string {
	text := fmt.Sprint(m, m.Delays[:cap(m.Delays)], m.Programs[:cap(m.Programs)], m.LPs[:cap(m.LPs)], m.Init[:cap(m.Init)])
	for _, p := range m.Programs {
		text += fmt.Sprint(p[:cap(p)])
	}
	for _, p := range m.LPs {
		text += fmt.Sprint(p.Words[:cap(p.Words)])
	}
	return text
}

// overwrite writes into all that a model has, and lies beside it.
func overwrite(m api.Model) {
	for i := range m.Delays[:cap(m.Delays)] {
		m.Delays[:cap(m.Delays)][i] = math.NaN()
	}
	for _, p := range m.Programs {
		for i := range p[:cap(p)] {
			p[:cap(p)][i] = do(api.OHalt)
		}
	}
	for _, p := range m.LPs {
		for i := range p.Words[:cap(p.Words)] {
			p.Words[:cap(p.Words)][i] = -99
		}
	}
	clear(m.Programs[:cap(m.Programs)])
	clear(m.LPs[:cap(m.LPs)])
	clear(m.Init[:cap(m.Init)])
}

func TestTheModelStays(t *testing.T) {
	r := rand.New(rand.NewSource(4))
	for range 1000 {
		m := withRoom(randomModel(r))
		want := toldModel(m)
		s := begun(t, m)
		for i := range s.Run(40) {
			l := s.State(i % len(m.LPs)).Words
			for j := range l[:cap(l)] {
				l[:cap(l)][j] = -99
			}
		}
		if got := toldModel(m); got != want {
			t.Fatalf("%s became %s", want, got)
		}
	}
}

func TestTheModelIsCopied(t *testing.T) {
	r := rand.New(rand.NewSource(5))
	for range 1000 {
		m := withRoom(randomModel(r))
		ahead := r.Intn(5)
		apart, s := begun(t, m), begun(t, m)
		wantRun, want := apart.Run(40), toldLooks(apart)
		l := s.Run(ahead)
		overwrite(m)
		l = append(l, s.Run(40-ahead)...)
		if got := toldLooks(s); got != want || toldDone(l) != toldDone(wantRun) {
			t.Fatalf("behind writing into the model it handled%s, not%s: %s, not %s", toldDone(l), toldDone(wantRun), got, want)
		}
	}
}

// Whatever part of the model is written into alone.
func TestEachPartOfTheModelIsCopied(t *testing.T) {
	want := toldDone(begun(t, ordinary()).Run(100))
	for i, write := range []func(m *api.Model){
		func(m *api.Model) { m.Delays[0] = 2 },
		func(m *api.Model) { m.Programs[0] = halt() },
		func(m *api.Model) { m.Programs[0][6] = do(api.OHalt) },
		func(m *api.Model) { m.LPs[0].Program = 2 },
		func(m *api.Model) { m.LPs[0].Words[0] = -99 },
		func(m *api.Model) { m.Init[1].T = 1 },
		func(m *api.Model) { m.End = 3 },
		func(m *api.Model) { m.Seed = 0 },
	} {
		m := ordinary()
		s := begun(t, m)
		write(&m)
		if got := toldState(s.State(0)); got != toldState(words(3, 4)) {
			t.Errorf("behind the change %d a state at first is %s", i, got)
		}
		if got := toldDone(s.Run(100)); got != want {
			t.Errorf("behind the change %d it handled%s, not%s", i, got, want)
		}
	}
}

// Two processes whose words are one memory have words of their own all the same.
func TestWordsInOneMemory(t *testing.T) {
	m := modelOf(2, toNext(), 5, api.Init{T: 1, Payload: 7})
	m.LPs[1].Words = m.LPs[0].Words
	s := begun(t, m)
	s.Run(1)
	checkLooks(t, s, 1, 1, api.State{Words: []int{7}, Sent: 1}, words(0))
}

func TestAStateIsNoMemoryOfTheSimulation(t *testing.T) {
	m := modelOf(2, toNext(), 50, api.Init{T: 0, Payload: 1})
	s, apart := begun(t, m), begun(t, m)
	for range 30 {
		for lp := range 2 {
			x, again := s.State(lp), s.State(lp)
			want := toldState(again)
			x.Words[0], x.Sent, x.Dice = -99, -99, -99
			x.Words = append(x.Words, -99)
			if toldState(again) != want || toldState(s.State(lp)) != want {
				t.Fatalf("%s became %s, and beside it %s", want, toldState(s.State(lp)), toldState(again))
			}
		}
		kept := s.State(0)
		want := toldState(kept)
		if got, want := s.Run(1), apart.Run(1); toldDone(got) != toldDone(want) {
			t.Fatalf("it handled%s, not%s", toldDone(got), toldDone(want))
		}
		if toldState(kept) != want {
			t.Fatalf("behind a step %s became %s", want, toldState(kept))
		}
	}
	if got, want := toldLooks(s), toldLooks(apart); got != want {
		t.Errorf("it is %s, not %s", got, want)
	}
}

func TestWhatARunAnswersIsNoMemoryOfTheSimulation(t *testing.T) {
	m := modelOf(2, byPayload(0, 1), 4, api.Init{T: 0}, api.Init{T: 0, Dst: 1})
	s, apart := begun(t, m), begun(t, m)
	for range 20 {
		kept := s.Run(2)
		told := toldDone(kept)
		if want := toldDone(apart.Run(2)); told != want {
			t.Fatalf("it handled%s, not%s", told, want)
		}
		next := s.Run(1)
		if want := toldDone(apart.Run(1)); toldDone(next) != want || toldDone(kept) != told {
			t.Fatalf("it handled%s, not%s, and%s became%s", toldDone(next), want, told, toldDone(kept))
		}
		for _, l := range [][]api.Done{kept, next} {
			for i := range l[:cap(l)] {
				l[:cap(l)][i] = api.Done{Event: put(-99, -99, -99, -99, -99), Fault: -99}
			}
		}
		x, _ := s.Step()
		y, _ := apart.Step()
		if x != y {
			t.Fatalf("it handled%s, not%s", toldDone([]api.Done{x}), toldDone([]api.Done{y}))
		}
	}
}

// R4

// Of many events that wait the same is taken each time, in whatever order a map is gone through; and beside other simulations.
func TestTheSameEachTime(t *testing.T) {
	m := modelOf(6, byPayload(5, 4, 0, 1), 2)
	m.Delays = []float64{1, 2, 0.5}
	for i := range 16 {
		m.Init = append(m.Init, api.Init{T: float64(i % 2), Dst: i * 5 % 6, Payload: i % 3})
	}
	w := wantedOf(m)
	want := toldDone(w.run(400))
	answers := make(chan string)
	for range 8 {
		go func() {
			s, _ := New(m)
			answers <- toldDone(s.Run(400))
		}()
	}
	for range 8 {
		if got := <-answers; got != want {
			t.Errorf("it handled%s, not%s", got, want)
		}
	}
	// One at a time, in turn with another.
	one, other := begun(t, m), begun(t, m)
	for range 400 {
		x, _ := one.Step()
		y, _ := other.Step()
		if x != y {
			t.Fatalf("one handled%s, the other%s", toldDone([]api.Done{x}), toldDone([]api.Done{y}))
		}
	}
}
