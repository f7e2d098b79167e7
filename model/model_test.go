package model

import (
	"fmt"
	"math"
	"math/rand"
	"reflect"
	"slices"
	"strings"
	"testing"

	"horologe/api"
)

var (
	zeroBelow = math.Copysign(0, -1)
	infinity  = math.Inf(1)
	noNumber  = math.NaN()
)

const (
	tiny     = math.SmallestNonzeroFloat64
	greatest = math.MaxFloat64
)

// noNumbers are of both signs, quiet or not, with the least and the greatest bits.
func noNumbers() []float64 {
	var l []float64
	for _, bits := range []uint64{0x7ff0000000000001, 0x7ff7ffffffffffff, 0x7ff8000000000000, 0x7ff8000000000001, 0x7fffffffffffffff} {
		l = append(l, math.Float64frombits(bits), math.Float64frombits(bits|1<<63))
	}
	return append(l, noNumber)
}

func numbers() []float64 {
	return []float64{-infinity, -greatest, -1, -tiny, zeroBelow, 0, tiny, 0.5, 1, greatest, infinity}
}

func edgeInts() []int {
	return []int{math.MinInt, math.MinInt + 1, math.MinInt32, -9, -1, 0, 1, 2, 7, 8, 9, 48, 49, math.MaxInt32, 1 << 40, math.MaxInt - 1, math.MaxInt}
}

// example is the model of the chapter.
func example() api.Model {
	return api.Model{End: 10, Delays: []float64{1}, Programs: [][]api.Ins{{{Op: api.OHalt}}}, LPs: []api.LP{{}}}
}

// ordinary has more than one of everything.
func ordinary() api.Model {
	return api.Model{
		Seed:   7,
		End:    10,
		Delays: []float64{0.5, 2, 1},
		Programs: [][]api.Ins{
			{{Op: api.OSet, A: 4, B: 9}, {Op: api.OSend, A: 1, B: 4, C: 0}, {Op: api.OHalt}},
			{{Op: api.OZero, A: 0, B: 2}, {Op: api.OStore, A: 5, B: 0}},
		},
		LPs:  []api.LP{{Program: 1, Words: []int{3, 4}}, {Program: 0}, {Program: 1, Words: []int{5}}},
		Init: []api.Init{{T: 1, Dst: 2, Payload: 8}, {T: -1.5, Dst: 0, Payload: -8}},
	}
}

// full has as much of everything as there may be.
func full() api.Model {
	m := api.Model{Seed: -1, End: infinity}
	for range api.MaxDelays {
		m.Delays = append(m.Delays, infinity)
	}
	for range api.MaxPrograms {
		m.Programs = append(m.Programs, slices.Repeat([]api.Ins{{Op: api.OJump, A: api.MaxCode}}, api.MaxCode))
	}
	for range api.MaxLPs {
		m.LPs = append(m.LPs, api.LP{Program: api.MaxPrograms - 1, Words: slices.Repeat([]int{math.MaxInt}, api.MaxWords)})
	}
	for range api.MaxInit {
		m.Init = append(m.Init, api.Init{T: -infinity, Dst: api.MaxLPs - 1, Payload: math.MinInt})
	}
	return m
}

func goodModels() []api.Model {
	return []api.Model{example(), ordinary(), full()}
}

// told is a model as a text, floats by their bits, whatever room its lists have.
func told(m api.Model) string {
	var b strings.Builder
	fmt.Fprintf(&b, "%d %x;", m.Seed, math.Float64bits(m.End))
	for _, d := range m.Delays {
		fmt.Fprintf(&b, " %x", math.Float64bits(d))
	}
	for _, p := range m.Programs {
		fmt.Fprintf(&b, "; %d: %v", len(p), p)
	}
	for _, p := range m.LPs {
		fmt.Fprintf(&b, "; %d %d: %v", p.Program, len(p.Words), p.Words)
	}
	for _, e := range m.Init {
		fmt.Fprintf(&b, "; %x %d %d", math.Float64bits(e.T), e.Dst, e.Payload)
	}
	return b.String()
}

func checkAnswer(t *testing.T, m api.Model, want api.Errno, what string) {
	t.Helper()
	if e := Check(m); e != want {
		t.Errorf("%s: Check = %d, not %d", what, int(e), int(want))
	}
}

// answerIf tells the answer of a model that may be, or not.
func answerIf(may bool) api.Errno {
	if may {
		return api.OK
	}
	return api.ErrModel
}

// P5.1

func TestCheckExamples(t *testing.T) {
	checkAnswer(t, example(), api.OK, "the chapter's model")
	m := example()
	m.Delays[0] = 0
	checkAnswer(t, m, api.ErrModel, "with a delay of 0")
	checkAnswer(t, ordinary(), api.OK, "an ordinary model")
	checkAnswer(t, full(), api.OK, "all limits reached")
	checkAnswer(t, api.Model{}, api.ErrModel, "nothing")
}

// sized makes a list of so many, by repeating its first element.
func sized[T any](first T, n int) []T {
	return slices.Repeat([]T{first}, n)
}

func TestCheckLimits(t *testing.T) {
	halt := api.Ins{Op: api.OHalt}
	for _, c := range []struct {
		what        string
		least, most int
		resize      func(m *api.Model, n int)
	}{
		{"processes", 1, 6, func(m *api.Model, n int) { m.LPs, m.Init = sized(api.LP{}, n), nil }},
		{"programs", 1, 4, func(m *api.Model, n int) {
			m.Programs, m.LPs, m.Init = sized([]api.Ins{halt}, n), []api.LP{{}}, nil
		}},
		{"delays", 1, 8, func(m *api.Model, n int) { m.Delays = sized(0.5, n) }},
		{"events", 0, 16, func(m *api.Model, n int) { m.Init = sized(api.Init{}, n) }},
		{"the first program's instructions", 1, 48, func(m *api.Model, n int) { m.Programs[0] = sized(halt, n) }},
		{"the last program's instructions", 1, 48, func(m *api.Model, n int) { m.Programs[len(m.Programs)-1] = sized(halt, n) }},
		{"the first process's words", 0, 8, func(m *api.Model, n int) { m.LPs[0].Words = sized(-1, n) }},
		{"the last process's words", 0, 8, func(m *api.Model, n int) { m.LPs[len(m.LPs)-1].Words = sized(-1, n) }},
	} {
		for n := range 60 {
			for _, m := range goodModels() {
				c.resize(&m, n)
				checkAnswer(t, m, answerIf(n >= c.least && n <= c.most), fmt.Sprint(n, " of ", c.what))
			}
		}
		m := ordinary()
		c.resize(&m, 1<<16)
		checkAnswer(t, m, api.ErrModel, "very many of "+c.what)
	}
}

func TestCheckEnd(t *testing.T) {
	for _, m := range goodModels() {
		for _, x := range numbers() {
			m.End = x
			checkAnswer(t, m, api.OK, fmt.Sprint("an end of ", x))
		}
		for _, x := range noNumbers() {
			m.End = x
			checkAnswer(t, m, api.ErrModel, "an end that is no number")
		}
	}
}

func TestCheckDelays(t *testing.T) {
	for _, fresh := range []func() api.Model{example, ordinary, full} {
		for i := range fresh().Delays {
			for _, x := range []float64{tiny, 0x1p-1022, 0.5, 1, greatest, infinity} {
				m := fresh()
				m.Delays[i] = x
				checkAnswer(t, m, api.OK, fmt.Sprint("a delay of ", x))
			}
			for _, x := range append(noNumbers(), 0, zeroBelow, -tiny, -1, -greatest, -infinity) {
				m := fresh()
				m.Delays[i] = x
				checkAnswer(t, m, api.ErrModel, fmt.Sprint("a delay of ", x))
			}
		}
	}
}

func TestCheckEventTimes(t *testing.T) {
	for _, fresh := range []func() api.Model{ordinary, full} {
		for i := range fresh().Init {
			for _, x := range numbers() {
				m := fresh()
				m.Init[i].T = x
				checkAnswer(t, m, api.OK, fmt.Sprint("an event at ", x))
			}
			for _, x := range noNumbers() {
				m := fresh()
				m.Init[i].T = x
				checkAnswer(t, m, api.ErrModel, "an event at no number")
			}
		}
	}
}

// checkPlaces puts numbers into a place that must be that of one of so many.
func checkPlaces(t *testing.T, fresh func() api.Model, count int, what string, set func(m *api.Model, n int)) {
	t.Helper()
	for _, n := range append(edgeInts(), -2, 3, 4, 5, 6) {
		m := fresh()
		set(&m, n)
		checkAnswer(t, m, answerIf(n >= 0 && n < count), fmt.Sprint(what, n))
	}
}

func TestCheckWhichProgram(t *testing.T) {
	for _, fresh := range []func() api.Model{example, ordinary, full} {
		for i := range fresh().LPs {
			checkPlaces(t, fresh, len(fresh().Programs), "the program ", func(m *api.Model, n int) { m.LPs[i].Program = n })
		}
	}
}

func TestCheckToWhom(t *testing.T) {
	for _, fresh := range []func() api.Model{ordinary, full} {
		for i := range fresh().Init {
			checkPlaces(t, fresh, len(fresh().LPs), "an event for ", func(m *api.Model, n int) { m.Init[i].Dst = n })
		}
	}
}

// TestCheckInstructions: one instruction alone may not be, wherever it is; its places go by its own program's length.
func TestCheckInstructions(t *testing.T) {
	for p := range ordinary().Programs {
		length := len(ordinary().Programs[p])
		for i := range length {
			for _, x := range someInstructions(length) {
				m := ordinary()
				m.Programs[p][i] = x
				checkAnswer(t, m, answerIf(wantIns(x, length)), fmt.Sprint(x, " at ", i, " of ", length))
			}
		}
	}
	for _, i := range []int{0, 1, api.MaxCode - 1} {
		for p := range api.MaxPrograms {
			m := full()
			m.Programs[p][i].A++
			checkAnswer(t, m, api.ErrModel, "a place one behind the last")
			m.Programs[p][i] = api.Ins{Op: api.OStore + 1}
			checkAnswer(t, m, api.ErrModel, "no Op")
		}
	}
}

func TestCheckTakesAnySeedWordAndPayload(t *testing.T) {
	for _, n := range edgeInts() {
		m := ordinary()
		m.Seed, m.LPs[0].Words[1], m.Init[1].Payload = n, n, n
		checkAnswer(t, m, api.OK, fmt.Sprint("the number ", n))
	}
}

func TestCheckListsWithoutElements(t *testing.T) {
	m := ordinary()
	m.LPs[0].Words, m.Init = nil, nil
	checkAnswer(t, m, api.OK, "nil words and events")
	m.LPs[0].Words, m.Init = []int{}, []api.Init{}
	checkAnswer(t, m, api.OK, "empty words and events")
	for _, empty := range []func(*api.Model){
		func(m *api.Model) { m.Delays = nil },
		func(m *api.Model) { m.Delays = []float64{} },
		func(m *api.Model) { m.Programs = nil },
		func(m *api.Model) { m.Programs = [][]api.Ins{} },
		func(m *api.Model) { m.Programs[1] = nil },
		func(m *api.Model) { m.Programs[1] = []api.Ins{} },
		func(m *api.Model) { m.LPs, m.Init = nil, nil },
		func(m *api.Model) { m.LPs, m.Init = []api.LP{}, nil },
		func(m *api.Model) { m.LPs = nil },
		func(m *api.Model) { m.LPs, m.Init, m.Programs, m.Delays = nil, nil, nil, nil },
	} {
		m := ordinary()
		empty(&m)
		checkAnswer(t, m, api.ErrModel, told(m))
	}
}

// spacious has the elements of the ordinary model, in lists behind whose ends lies what may not be.
func spacious() api.Model {
	m := ordinary()
	m.Delays = append(m.Delays, noNumber, 0, -1)[:len(m.Delays)]
	for i, p := range m.Programs {
		m.Programs[i] = append(p, api.Ins{Op: -1}, api.Ins{Op: 15})[:len(p)]
	}
	m.Programs = append(m.Programs, nil, nil, nil, nil)[:len(m.Programs)]
	for i, p := range m.LPs {
		m.LPs[i].Words = append(p.Words, sized(99, 20)...)[:len(p.Words)]
	}
	m.LPs = append(m.LPs, sized(api.LP{Program: -1, Words: []int{1}}, 20)...)[:len(m.LPs)]
	m.Init = append(m.Init, sized(api.Init{T: noNumber, Dst: -1}, 20)...)[:len(m.Init)]
	return m
}

// spread is a model whose lists reach as far as their room does.
func spread(m api.Model) api.Model {
	m.Delays = m.Delays[:cap(m.Delays)]
	m.Programs = slices.Clone(m.Programs[:cap(m.Programs)])
	for i, p := range m.Programs {
		m.Programs[i] = p[:cap(p)]
	}
	m.LPs = slices.Clone(m.LPs[:cap(m.LPs)])
	for i, p := range m.LPs {
		m.LPs[i].Words = p.Words[:cap(p.Words)]
	}
	m.Init = m.Init[:cap(m.Init)]
	return m
}

func TestCheckLooksAtNoSpareRoom(t *testing.T) {
	checkAnswer(t, spacious(), api.OK, "spare room")
	checkAnswer(t, spread(spacious()), api.ErrModel, "what lay in the spare room")
}

// faults are ways to make any good model one that may not be.
func faults(r *rand.Rand) []func(*api.Model) {
	wrongTimes := noNumbers()
	return []func(*api.Model){
		func(m *api.Model) { m.End = wrongTimes[r.Intn(len(wrongTimes))] },
		func(m *api.Model) { m.Delays[r.Intn(len(m.Delays))] = wrongTimes[r.Intn(len(wrongTimes))] },
		func(m *api.Model) { m.Delays[r.Intn(len(m.Delays))] = -r.Float64() },
		func(m *api.Model) { m.Delays = sized(1.0, 9) },
		func(m *api.Model) { p := m.Programs[r.Intn(len(m.Programs))]; p[r.Intn(len(p))].Op = 15 + r.Intn(5) },
		func(m *api.Model) {
			p := m.Programs[r.Intn(len(m.Programs))]
			p[r.Intn(len(p))] = api.Ins{Op: api.OJump, A: len(p) + 1}
		},
		func(m *api.Model) { m.Programs[r.Intn(len(m.Programs))] = nil },
		func(m *api.Model) { m.Programs[r.Intn(len(m.Programs))] = sized(api.Ins{}, 49) },
		func(m *api.Model) { m.LPs[r.Intn(len(m.LPs))].Program = len(m.Programs) + r.Intn(3) },
		func(m *api.Model) { m.LPs[r.Intn(len(m.LPs))].Words = make([]int, 9+r.Intn(3)) },
		func(m *api.Model) { m.Init = append(m.Init, api.Init{Dst: len(m.LPs) + r.Intn(3)}) },
		func(m *api.Model) { m.Init = append(m.Init, api.Init{T: wrongTimes[r.Intn(len(wrongTimes))]}) },
		func(m *api.Model) { m.Init = make([]api.Init, 17) },
	}
}

func randomIns(r *rand.Rand, length int) api.Ins {
	for {
		x := api.Ins{Op: r.Intn(15), A: r.Intn(12), B: r.Intn(12), C: r.Intn(12)}
		if wantIns(x, length) {
			return x
		}
	}
}

// randomModel is one that may be.
func randomModel(r *rand.Rand) api.Model {
	m := api.Model{Seed: int(r.Uint64()), End: r.NormFloat64() * 100}
	for range 1 + r.Intn(api.MaxDelays) {
		m.Delays = append(m.Delays, 1-r.Float64())
	}
	for range 1 + r.Intn(api.MaxPrograms) {
		p := make([]api.Ins, 1+r.Intn(api.MaxCode))
		for i := range p {
			p[i] = randomIns(r, len(p))
		}
		m.Programs = append(m.Programs, p)
	}
	for range 1 + r.Intn(api.MaxLPs) {
		p := api.LP{Program: r.Intn(len(m.Programs))}
		for range r.Intn(api.MaxWords + 1) {
			p.Words = append(p.Words, int(r.Uint64()))
		}
		m.LPs = append(m.LPs, p)
	}
	for range r.Intn(api.MaxInit + 1) {
		m.Init = append(m.Init, api.Init{T: r.NormFloat64(), Dst: r.Intn(len(m.LPs)), Payload: int(r.Uint64())})
	}
	return m
}

func TestCheckRandomModels(t *testing.T) {
	r := rand.New(rand.NewSource(1))
	for range 200 {
		m := randomModel(r)
		checkAnswer(t, m, api.OK, told(m))
		if len(m.Init) > 0 {
			m.Init[r.Intn(len(m.Init))].Dst = len(m.LPs)
			checkAnswer(t, m, api.ErrModel, told(m))
		}
	}
	for range 50 {
		for i, spoil := range faults(r) {
			m := randomModel(r)
			spoil(&m)
			checkAnswer(t, m, api.ErrModel, fmt.Sprint("fault ", i, ": ", told(m)))
		}
	}
}

// P5.2: Ins

// wantIns goes by the chapter's list, by which parts are registers, and which are places.
func wantIns(x api.Ins, length int) bool {
	isRegister := func(n int) bool { return 0 <= n && n <= 7 }
	isPlace := func(n int) bool { return 0 <= n && n <= length }
	a, b, c := isRegister(x.A), isRegister(x.B), isRegister(x.C)
	want := map[int]bool{
		0: true, 1: a, 2: a && b,
		3: a && b && c, 4: a && b && c, 5: a && b && c, 6: a && b && c, 7: a && b && c, 8: a && b && c,
		9: isPlace(x.A), 10: a && isPlace(x.B), 11: a && b, 12: a && b && c, 13: a && b, 14: a && b,
	}
	return want[x.Op]
}

func someInstructions(length int) []api.Ins {
	var l []api.Ins
	parts := []int{math.MinInt, -1, 0, 7, 8, length - 1, length, length + 1, math.MaxInt}
	for _, op := range append([]int{math.MinInt, -2, -1, 15, 16, 255, 256, math.MaxInt}, edgeOps()...) {
		for _, a := range parts {
			for _, b := range parts {
				for _, c := range parts {
					l = append(l, api.Ins{Op: op, A: a, B: b, C: c})
				}
			}
		}
	}
	return l
}

func edgeOps() []int {
	var l []int
	for op := range 15 {
		l = append(l, op)
	}
	return l
}

func TestInsOfEveryOp(t *testing.T) {
	for _, length := range []int{1, 2, 3, 7, 8, 47, 48} {
		for _, x := range someInstructions(length) {
			if got := Ins(x, length); got != wantIns(x, length) {
				t.Errorf("Ins(%v, %d) = %v", x, length, got)
			}
		}
	}
}

func TestInsExamples(t *testing.T) {
	for _, c := range []struct {
		x      api.Ins
		length int
		want   bool
	}{
		{api.Ins{Op: api.OHalt - 1}, 1, false},
		{api.Ins{Op: api.OStore + 1}, 1, false},
		{api.Ins{Op: api.OHalt, A: -1, B: 8, C: math.MinInt}, 1, true},
		{api.Ins{Op: api.OSet, A: 7, B: math.MinInt, C: -1}, 1, true},
		{api.Ins{Op: api.OSet, A: 8}, 1, false},
		{api.Ins{Op: api.OSet, A: 8}, 9, false},
		{api.Ins{Op: api.OSet, A: -1}, 1, false},
		{api.Ins{Op: api.OMove, A: 7, B: 7, C: 8}, 1, true},
		{api.Ins{Op: api.OMove, A: 7, B: 8}, 1, false},
		{api.Ins{Op: api.OMove, A: -1, B: 7}, 1, false},
		{api.Ins{Op: api.ORoll, A: 0, B: 7, C: -1}, 1, true},
		{api.Ins{Op: api.ORoll, A: 0, B: -1}, 1, false},
		{api.Ins{Op: api.OLoad, A: 7, B: 0, C: 99}, 1, true},
		{api.Ins{Op: api.OLoad, A: 8, B: 0}, 1, false},
		{api.Ins{Op: api.OStore, A: 7, B: 7, C: -99}, 1, true},
		{api.Ins{Op: api.OStore, A: 0, B: 8}, 1, false},
		{api.Ins{Op: api.OSend, A: 7, B: 7, C: 7}, 1, true},
		{api.Ins{Op: api.OSend, A: 7, B: 7, C: 8}, 1, false},
		{api.Ins{Op: api.OLess, A: 7, B: 7, C: -1}, 1, false},
		{api.Ins{Op: api.OJump, A: 0, B: -1, C: -1}, 1, true},
		{api.Ins{Op: api.OJump, A: 1, B: 8, C: 8}, 1, true},
		{api.Ins{Op: api.OJump, A: 2}, 1, false},
		{api.Ins{Op: api.OJump, A: -1}, 1, false},
		{api.Ins{Op: api.OJump, A: 48}, 48, true},
		{api.Ins{Op: api.OJump, A: 49}, 48, false},
		{api.Ins{Op: api.OZero, A: 7, B: 48, C: -1}, 48, true},
		{api.Ins{Op: api.OZero, A: 7, B: 49}, 48, false},
		{api.Ins{Op: api.OZero, A: 8, B: 8}, 48, false},
		{api.Ins{Op: api.OZero, A: 0, B: -1}, 48, false},
	} {
		if got := Ins(c.x, c.length); got != c.want {
			t.Errorf("Ins(%v, %d) = %v", c.x, c.length, got)
		}
	}
}

// TestInsOfAnyLength: the length tells the places alone, even if no program could have it.
func TestInsOfAnyLength(t *testing.T) {
	for _, length := range edgeInts() {
		for _, op := range edgeOps() {
			for _, n := range edgeInts() {
				for _, x := range []api.Ins{{Op: op, A: n}, {Op: op, B: n}, {Op: op, C: n}} {
					if got := Ins(x, length); got != wantIns(x, length) {
						t.Errorf("Ins(%v, %d) = %v", x, length, got)
					}
				}
			}
		}
	}
}

// P5.2: Copy

// anyModels are models that may be, and others.
func anyModels() []api.Model {
	r := rand.New(rand.NewSource(2))
	l := append(goodModels(), api.Model{}, spacious(), spread(spacious()))
	for range 30 {
		l = append(l, randomModel(r))
		for _, spoil := range faults(r) {
			m := randomModel(r)
			spoil(&m)
			l = append(l, m)
		}
	}
	for _, change := range changes() {
		m := ordinary()
		change(&m)
		l = append(l, m)
	}
	return l
}

func TestCopyIsTheSame(t *testing.T) {
	for _, m := range anyModels() {
		c := Copy(m)
		if told(c) != told(m) {
			t.Errorf("the copy of %s is %s", told(m), told(c))
		}
		if !Same(c, m) || !Same(m, c) {
			t.Errorf("the copy of %s is not the same", told(m))
		}
	}
}

func TestCopyOfListsWithoutElements(t *testing.T) {
	m := api.Model{
		Delays:   []float64{},
		Programs: [][]api.Ins{nil, {}, make([]api.Ins, 0, 9)},
		LPs:      []api.LP{{}, {Words: []int{}}, {Words: make([]int, 0, 9)}},
		Init:     make([]api.Init, 0, 9),
	}
	want := api.Model{Programs: make([][]api.Ins, 3), LPs: make([]api.LP, 3)}
	if c := Copy(m); !reflect.DeepEqual(c, want) {
		t.Errorf("%#v", c)
	}
	m = api.Model{Programs: [][]api.Ins{}, LPs: []api.LP{}}
	if c := Copy(m); !reflect.DeepEqual(c, api.Model{}) {
		t.Errorf("%#v", c)
	}
	if c := Copy(api.Model{}); !reflect.DeepEqual(c, api.Model{}) {
		t.Errorf("%#v", c)
	}
}

// P5.2: Same

// changes are ways to change one thing alone of the ordinary model, no two of them to the same.
func changes() []func(*api.Model) {
	l := []func(*api.Model){
		func(m *api.Model) { m.Seed++ },
		func(m *api.Model) { m.End = math.Nextafter(m.End, 11) },
		func(m *api.Model) { m.End = infinity },
		func(m *api.Model) { m.End = noNumber },
		func(m *api.Model) { m.Delays[0] = math.Nextafter(m.Delays[0], 0) },
		func(m *api.Model) { m.Delays[2] = infinity },
		func(m *api.Model) { m.Delays[1] = noNumber },
		func(m *api.Model) { m.Delays[0], m.Delays[1] = m.Delays[1], m.Delays[0] },
		func(m *api.Model) { m.Delays = m.Delays[:2] },
		func(m *api.Model) { m.Delays = m.Delays[1:] },
		func(m *api.Model) { m.Delays = append(m.Delays, 1) },
		func(m *api.Model) { m.Delays = nil },
		func(m *api.Model) { m.Programs[1][0].Op = api.OMove },
		func(m *api.Model) { m.Programs[0][2].A++ },
		func(m *api.Model) { m.Programs[0][2].B++ },
		func(m *api.Model) { m.Programs[0][2].C++ },
		func(m *api.Model) { m.Programs[0] = m.Programs[0][:2] },
		func(m *api.Model) { m.Programs[1] = append(m.Programs[1], api.Ins{}) },
		func(m *api.Model) { m.Programs[1] = nil },
		func(m *api.Model) { m.Programs[0], m.Programs[1] = m.Programs[1], m.Programs[0] },
		func(m *api.Model) { m.Programs = m.Programs[:1] },
		func(m *api.Model) { m.Programs = append(m.Programs, nil) },
		func(m *api.Model) { m.Programs = nil },
		func(m *api.Model) { m.LPs[0].Program++ },
		func(m *api.Model) { m.LPs[2].Program-- },
		func(m *api.Model) { m.LPs[0].Words[0]++ },
		func(m *api.Model) { m.LPs[0].Words[1]++ },
		func(m *api.Model) { m.LPs[2].Words[0]-- },
		func(m *api.Model) { m.LPs[0].Words = m.LPs[0].Words[:1] },
		func(m *api.Model) { m.LPs[0].Words = nil },
		func(m *api.Model) { m.LPs[1].Words = []int{0} },
		func(m *api.Model) { m.LPs[0], m.LPs[2] = m.LPs[2], m.LPs[0] },
		func(m *api.Model) { m.LPs = m.LPs[:2] },
		func(m *api.Model) { m.LPs = append(m.LPs, api.LP{}) },
		func(m *api.Model) { m.LPs = nil },
		func(m *api.Model) { m.Init[0].T = math.Nextafter(1, 2) },
		func(m *api.Model) { m.Init[1].T = 1.5 },
		func(m *api.Model) { m.Init[1].T = noNumber },
		func(m *api.Model) { m.Init[1].Dst++ },
		func(m *api.Model) { m.Init[0].Payload++ },
		func(m *api.Model) { m.Init[1].Payload++ },
		func(m *api.Model) { m.Init[0], m.Init[1] = m.Init[1], m.Init[0] },
		func(m *api.Model) { m.Init = m.Init[:1] },
		func(m *api.Model) { m.Init = append(m.Init, api.Init{}) },
		func(m *api.Model) { m.Init = nil },
	}
	for _, zero := range []float64{0, zeroBelow} {
		l = append(l,
			func(m *api.Model) { m.End = zero },
			func(m *api.Model) { m.Delays[1] = zero },
			func(m *api.Model) { m.Init[1].T = zero })
	}
	return l
}

func TestSameOnlyOfTheSame(t *testing.T) {
	all := append(changes(), func(*api.Model) {})
	for i, change := range all {
		for j, other := range all {
			a, b := ordinary(), ordinary()
			change(&a)
			other(&b)
			if Same(a, b) != (i == j) {
				t.Errorf("%s and %s: %v", told(a), told(b), Same(a, b))
			}
		}
	}
}

func TestSameFloats(t *testing.T) {
	sets := []func(m *api.Model, x float64){
		func(m *api.Model, x float64) { m.End = x },
		func(m *api.Model, x float64) { m.Delays[0] = x },
		func(m *api.Model, x float64) { m.Delays[2] = x },
		func(m *api.Model, x float64) { m.Init[0].T = x },
		func(m *api.Model, x float64) { m.Init[1].T = x },
	}
	floats := append(numbers(), noNumbers()...)
	for _, set := range sets {
		for _, x := range floats {
			for _, y := range floats {
				a, b := ordinary(), ordinary()
				set(&a, x)
				set(&b, y)
				bothNone := x != x && y != y
				want := bothNone || math.Float64bits(x) == math.Float64bits(y)
				if Same(a, b) != want {
					t.Errorf("%x and %x: %v", math.Float64bits(x), math.Float64bits(y), Same(a, b))
				}
			}
		}
	}
}

func TestSameOfListsWithoutElements(t *testing.T) {
	none := api.Model{Programs: [][]api.Ins{nil}, LPs: []api.LP{{}}}
	empty := api.Model{
		Delays:   []float64{},
		Programs: [][]api.Ins{{}},
		LPs:      []api.LP{{Words: make([]int, 0, 5)}},
		Init:     []api.Init{},
	}
	if !Same(none, empty) || !Same(empty, none) {
		t.Error("nil and empty lists are not the same")
	}
	if !Same(api.Model{}, api.Model{Programs: [][]api.Ins{}, LPs: []api.LP{}}) {
		t.Error("nil and empty lists are not the same")
	}
	if Same(none, api.Model{}) || Same(api.Model{}, empty) {
		t.Error("a program without instructions is not no program")
	}
}

func TestSameLooksAtNoSpareRoom(t *testing.T) {
	if !Same(spacious(), ordinary()) || !Same(ordinary(), spacious()) {
		t.Error("spare room counts")
	}
	if Same(spread(spacious()), ordinary()) {
		t.Error("what lay in the spare room does not count")
	}
}

// P5.3

func TestCopyMayBeJustIfTheModelMay(t *testing.T) {
	good, bad := 0, 0
	for _, m := range anyModels() {
		e := Check(m)
		checkAnswer(t, Copy(m), e, told(m))
		if e == api.OK {
			good++
		} else {
			bad++
		}
	}
	if good < 30 || bad < 30 {
		t.Error("too few:", good, bad)
	}
}

// scribble changes every element of every list where it lies, and what lies in the room behind.
func scribble(m api.Model) {
	room := spread(m)
	for i := range room.Delays {
		room.Delays[i] = -7
	}
	for _, p := range room.Programs {
		for i := range p {
			p[i] = api.Ins{Op: -7, A: -7, B: -7, C: -7}
		}
	}
	for _, p := range room.LPs {
		for i := range p.Words {
			p.Words[i] = -7
		}
	}
	for i := range room.Init {
		room.Init[i] = api.Init{T: -7, Dst: -7, Payload: -7}
	}
	for i := range m.Programs[:cap(m.Programs)] {
		m.Programs[:cap(m.Programs)][i] = []api.Ins{{Op: -7}}
	}
	for i := range m.LPs[:cap(m.LPs)] {
		m.LPs[:cap(m.LPs)][i] = api.LP{Program: -7}
	}
}

func TestCopyAndModelAreApart(t *testing.T) {
	for i, m := range anyModels() {
		before, room := told(m), told(spread(m))
		c := Copy(m)
		scribble(c)
		if told(m) != before || told(spread(m)) != room {
			t.Errorf("model %d was changed with its copy: %s", i, told(m))
		}
	}
	for i, m := range anyModels() {
		before := told(m)
		c := Copy(m)
		scribble(m)
		if told(c) != before {
			t.Errorf("copy %d was changed with its model: %s", i, told(c))
		}
	}
}

// TestEachListOfACopyAlone: whichever thing of a copy is changed, the model stays; and the other way round.
func TestEachListOfACopyAlone(t *testing.T) {
	for _, fresh := range []func() api.Model{ordinary, spacious} {
		for i, change := range changes() {
			m := fresh()
			c := Copy(m)
			change(&c)
			if told(m) != told(ordinary()) || told(spread(m)) != told(spread(fresh())) {
				t.Errorf("change %d of the copy: the model is %s", i, told(m))
			}
			m = fresh()
			c = Copy(m)
			change(&m)
			if told(c) != told(ordinary()) {
				t.Errorf("change %d of the model: the copy is %s", i, told(c))
			}
		}
	}
}

// TestListsOfACopyAreApart: lists that share memory in a model do not in its copy.
func TestListsOfACopyAreApart(t *testing.T) {
	code := []api.Ins{{Op: api.OHalt}, {Op: api.OHalt, A: 1}}
	words := []int{1, 2, 3}
	m := example()
	m.Programs = [][]api.Ins{code, code, code[:1]}
	m.LPs = []api.LP{{Words: words}, {Words: words}, {Words: words[:1]}}
	c := Copy(m)
	c.Programs[0][0].Op = api.OSet
	c.Programs[2] = append(c.Programs[2], api.Ins{Op: api.OMove})
	c.LPs[0].Words[0] = 9
	c.LPs[2].Words = append(c.LPs[2].Words, 8)
	if c.Programs[1][0].Op != api.OHalt || c.Programs[1][1].A != 1 || c.Programs[2][0].Op != api.OHalt {
		t.Error("programs of a copy share memory:", c.Programs)
	}
	if !slices.Equal(c.LPs[1].Words, []int{1, 2, 3}) || c.LPs[2].Words[0] != 1 {
		t.Error("words of a copy share memory:", c.LPs)
	}
	if code[0].Op != api.OHalt || code[1].Op != api.OHalt || !slices.Equal(words, []int{1, 2, 3}) {
		t.Error("the model was changed:", code, words)
	}
}

func TestCopyOfACopy(t *testing.T) {
	for _, m := range anyModels() {
		before := told(m)
		one := Copy(m)
		two := Copy(one)
		scribble(one)
		if told(two) != before {
			t.Errorf("%s: the copy's copy is %s", before, told(two))
		}
	}
}

// R3, R4

func TestModelsAreLeftAsTheyAre(t *testing.T) {
	for _, m := range append(anyModels(), spacious()) {
		before := told(spread(m))
		e, same := Check(m), Same(m, ordinary())
		Same(ordinary(), m)
		Copy(m)
		for _, p := range m.Programs {
			for _, x := range p {
				if Ins(x, len(p)) != Ins(x, len(p)) {
					t.Errorf("Ins(%v) was answered in two ways", x)
				}
			}
		}
		if told(spread(m)) != before {
			t.Errorf("%s was changed: %s", before, told(spread(m)))
		}
		if Check(m) != e || Same(m, ordinary()) != same {
			t.Errorf("%s was answered in two ways", before)
		}
	}
}
