package modelio

import (
	"encoding/binary"
	"encoding/hex"
	"fmt"
	"math"
	"math/rand"
	"reflect"
	"slices"
	"strings"
	"testing"

	"horologe/api"
	"horologe/model"
)

var (
	zeroBelow = math.Copysign(0, -1)
	infinity  = math.Inf(1)
)

const (
	tiny     = math.SmallestNonzeroFloat64
	greatest = math.MaxFloat64
)

// noNumbers are of both signs, quiet or not, with the least and the greatest bits.
func noNumbers() []float64 {
	l := []float64{math.NaN()}
	for _, bits := range []uint64{0x7ff0000000000001, 0x7ff7ffffffffffff, 0x7ff8000000000000, 0x7ff8000000000001, 0x7fffffffffffffff} {
		l = append(l, math.Float64frombits(bits), math.Float64frombits(bits|1<<63))
	}
	return l
}

func delaysThatMayBe() []float64 {
	return []float64{tiny, 0x1p-1022, 0.1, 0.5, 1, 0x1p53, greatest, infinity}
}

func numbers() []float64 {
	return append(delaysThatMayBe(), 0, zeroBelow, -tiny, -0x1p-1022, -0.1, -1, -greatest, -infinity)
}

func edgeInts() []int {
	return []int{math.MinInt, math.MinInt + 1, math.MinInt32, -256, -9, -1, 0, 1, 255, 256, math.MaxInt32, 1 << 40, math.MaxInt - 1, math.MaxInt}
}

// least has as little of everything as there may be.
func least() api.Model {
	return api.Model{End: 10, Delays: []float64{1}, Programs: [][]api.Ins{{{Op: api.OHalt}}}, LPs: []api.LP{{}}}
}

// ordinary has more than one of everything, and no two numbers that could be taken one for the other.
func ordinary() api.Model {
	return api.Model{
		Seed:   700,
		End:    10,
		Delays: []float64{0.5, 2, 1},
		Programs: [][]api.Ins{
			{{Op: api.OSet, A: 4, B: 90, C: 91}, {Op: api.OSend, A: 1, B: 5, C: 0}, {Op: api.OHalt, A: 93, B: 94, C: 95}},
			{{Op: api.OZero, A: 3, B: 2, C: 96}, {Op: api.OStore, A: 5, B: 6, C: 97}},
		},
		LPs:  []api.LP{{Program: 1, Words: []int{30, 40}}, {Program: 0}, {Program: 1, Words: []int{50}}},
		Init: []api.Init{{T: 1.25, Dst: 2, Payload: 80}, {T: -1.5, Dst: 0, Payload: -81}},
	}
}

// full has as much of everything as there may be.
func full() api.Model {
	m := api.Model{Seed: -1, End: infinity}
	for i := range api.MaxDelays {
		m.Delays = append(m.Delays, delaysThatMayBe()[i])
	}
	for i := range api.MaxPrograms {
		p := make([]api.Ins, api.MaxCode)
		for j := range p {
			p[j] = api.Ins{Op: api.OJump, A: j + 1, B: 1000*i + j, C: math.MinInt}
		}
		m.Programs = append(m.Programs, p)
	}
	for i := range api.MaxLPs {
		words := make([]int, api.MaxWords)
		for j := range words {
			words[j] = math.MaxInt - 10*i - j
		}
		m.LPs = append(m.LPs, api.LP{Program: i % api.MaxPrograms, Words: words})
	}
	for i := range api.MaxInit {
		m.Init = append(m.Init, api.Init{T: numbers()[i], Dst: i % api.MaxLPs, Payload: math.MinInt + i})
	}
	return m
}

func randomInt(r *rand.Rand) int {
	if r.Intn(3) == 0 {
		return edgeInts()[r.Intn(len(edgeInts()))]
	}
	return int(r.Uint64())
}

func randomIns(r *rand.Rand, length int) api.Ins {
	for {
		x := api.Ins{Op: r.Intn(15), A: r.Intn(9), B: r.Intn(9), C: r.Intn(9)}
		if model.Ins(x, length) {
			return x
		}
	}
}

// randomModel is one that may be.
func randomModel(r *rand.Rand) api.Model {
	m := api.Model{Seed: randomInt(r), End: numbers()[r.Intn(len(numbers()))]}
	for range 1 + r.Intn(api.MaxDelays) {
		m.Delays = append(m.Delays, 1-r.Float64())
	}
	for range 1 + r.Intn(api.MaxPrograms) {
		p := make([]api.Ins, 1+r.Intn(api.MaxCode))
		for i := range p {
			p[i] = randomIns(r, len(p))
		}
		m.Programs = append(m.Programs, p)
	}
	for range 1 + r.Intn(api.MaxLPs) {
		p := api.LP{Program: r.Intn(len(m.Programs))}
		for range r.Intn(api.MaxWords + 1) {
			p.Words = append(p.Words, randomInt(r))
		}
		m.LPs = append(m.LPs, p)
	}
	for range r.Intn(api.MaxInit + 1) {
		m.Init = append(m.Init, api.Init{T: r.NormFloat64(), Dst: r.Intn(len(m.LPs)), Payload: randomInt(r)})
	}
	return m
}

// goodModels are models that may be.
func goodModels() []api.Model {
	r := rand.New(rand.NewSource(1))
	l := []api.Model{least(), ordinary(), full()}
	for range 100 {
		l = append(l, randomModel(r))
	}
	for _, n := range edgeInts() {
		m := ordinary()
		m.Seed, m.LPs[0].Words[1], m.LPs[2].Words[0], m.Init[0].Payload = n, n, n, n
		m.Programs[0][0].B, m.Programs[0][2].C = n, n
		l = append(l, m)
	}
	for _, x := range numbers() {
		m := ordinary()
		m.End, m.Init[0].T = x, -x
		l = append(l, m)
	}
	for _, x := range delaysThatMayBe() {
		m := ordinary()
		m.Delays[1] = x
		l = append(l, m)
	}
	return l
}

// sized makes a list of so many, by repeating its first element.
func sized[T any](first T, n int) []T { return slices.Repeat([]T{first}, n) }

// badModels are models that may not be, each for one reason alone, whose bytes are whole all the same.
func badModels() []api.Model {
	halt := api.Ins{Op: api.OHalt}
	faults := []func(*api.Model){
		func(m *api.Model) { *m = api.Model{} },
		func(m *api.Model) { m.LPs, m.Init = nil, nil },
		func(m *api.Model) { m.LPs = sized(api.LP{}, 7) },
		func(m *api.Model) { m.LPs = sized(api.LP{}, 48) },
		func(m *api.Model) { m.Programs = nil },
		func(m *api.Model) { m.Programs = sized([]api.Ins{halt}, 5) },
		func(m *api.Model) { m.Programs = sized(sized(halt, 48), 48) },
		func(m *api.Model) { m.Programs[1] = nil },
		func(m *api.Model) { m.Programs[0][0].Op = 15 },
		func(m *api.Model) { m.Programs[0][0].Op = -1 },
		func(m *api.Model) { m.Programs[0][1].C = 8 },
		func(m *api.Model) { m.Programs[1][0].B = 3 },
		func(m *api.Model) { m.Delays = nil },
		func(m *api.Model) { m.Delays = sized(1.0, 9) },
		func(m *api.Model) { m.Delays = sized(1.0, 48) },
		func(m *api.Model) { m.LPs[0].Program = 2 },
		func(m *api.Model) { m.LPs[1].Program = -1 },
		func(m *api.Model) { m.LPs[2].Words = sized(1, 9) },
		func(m *api.Model) { m.LPs[0].Words = sized(1, 48) },
		func(m *api.Model) { m.Init = sized(api.Init{}, 17) },
		func(m *api.Model) { m.Init = sized(api.Init{}, 48) },
		func(m *api.Model) { m.Init[0].Dst = 3 },
		func(m *api.Model) { m.Init[1].Dst = -1 },
	}
	for _, x := range noNumbers() {
		faults = append(faults,
			func(m *api.Model) { m.End = x },
			func(m *api.Model) { m.Delays[2] = x },
			func(m *api.Model) { m.Init[1].T = x })
	}
	for _, x := range []float64{0, zeroBelow, -tiny, -1, -infinity} {
		faults = append(faults, func(m *api.Model) { m.Delays[0] = x })
	}
	var l []api.Model
	for _, fault := range faults {
		m := ordinary()
		fault(&m)
		l = append(l, m)
	}
	return l
}

// longModels have one list alone that is one longer, or far longer, than bytes may say.
func longModels() []api.Model {
	var l []api.Model
	for _, n := range []int{49, 50, 256, 1000} {
		for _, longer := range []func(*api.Model){
			func(m *api.Model) { m.Delays = sized(1.0, n) },
			func(m *api.Model) { m.Programs = sized([]api.Ins{{}}, n) },
			func(m *api.Model) { m.Programs[1] = sized(api.Ins{}, n) },
			func(m *api.Model) { m.LPs = sized(api.LP{}, n) },
			func(m *api.Model) { m.LPs[1].Words = sized(0, n) },
			func(m *api.Model) { m.Init = sized(api.Init{}, n) },
		} {
			m := ordinary()
			longer(&m)
			l = append(l, m)
		}
	}
	return l
}

// sheet is bytes that are laid with nothing of the project's, and the places where lists say how many they have.
type sheet struct {
	b      []byte
	counts []int
}

func (s *sheet) number(n int)    { s.b = binary.BigEndian.AppendUint64(s.b, uint64(n)^1<<63) }
func (s *sheet) float(x float64) { s.b = binary.BigEndian.AppendUint64(s.b, math.Float64bits(x)) }
func (s *sheet) count(n int) {
	s.counts = append(s.counts, len(s.b))
	s.number(n)
}

// sheetOf lays any model, whether it may be or not.
func sheetOf(m api.Model) sheet {
	var s sheet
	s.number(m.Seed)
	s.float(m.End)
	s.count(len(m.Delays))
	for _, d := range m.Delays {
		s.float(d)
	}
	s.count(len(m.Programs))
	for _, p := range m.Programs {
		s.count(len(p))
		for _, x := range p {
			s.number(x.Op)
			s.number(x.A)
			s.number(x.B)
			s.number(x.C)
		}
	}
	s.count(len(m.LPs))
	for _, p := range m.LPs {
		s.number(p.Program)
		s.count(len(p.Words))
		for _, w := range p.Words {
			s.number(w)
		}
	}
	s.count(len(m.Init))
	for _, e := range m.Init {
		s.float(e.T)
		s.number(e.Dst)
		s.number(e.Payload)
	}
	return s
}

// laid is any model's bytes. No two models have the same, so models are held against each other by them.
func laid(m api.Model) string { return string(sheetOf(m).b) }

// says are bytes of which a list says another count, all else being left as it is.
func says(s string, place, n int) string {
	var c sheet
	c.number(n)
	return s[:place] + string(c.b) + s[place+8:]
}

// walker goes through bytes, and panics with the first error.
type walker struct {
	left string
}

func (w *walker) number() int {
	if len(w.left) < 8 {
		panic(api.ErrShort)
	}
	n := binary.BigEndian.Uint64([]byte(w.left[:8]))
	w.left = w.left[8:]
	return int(n - 1<<63)
}

func (w *walker) skip(n int) {
	for range n {
		w.number()
	}
}

func (w *walker) list(element func()) {
	n := w.number()
	if n < 0 || n > 48 {
		panic(api.ErrForm)
	}
	for range n {
		element()
	}
}

// wantError tells the error of bytes that are not a model's; whether that model may be is not asked.
func wantError(s string) (e api.Errno) {
	defer func() {
		if met := recover(); met != nil {
			e = met.(api.Errno)
		}
	}()
	w := &walker{s}
	w.skip(2)
	w.list(func() { w.skip(1) })
	w.list(func() { w.list(func() { w.skip(4) }) })
	w.list(func() { w.skip(1); w.list(func() { w.skip(1) }) })
	w.list(func() { w.skip(3) })
	if w.left != "" {
		return api.ErrForm
	}
	return api.OK
}

// brief is bytes as a text, not too long to be looked at.
func brief(s string) string {
	if len(s) > 400 {
		return fmt.Sprintf("%x.. (%d bytes)", s[:400], len(s))
	}
	return fmt.Sprintf("%x", s)
}

func isZero(m api.Model) bool { return reflect.DeepEqual(m, api.Model{}) }

func checkPut(t *testing.T, m api.Model, want string, wantError api.Errno) {
	t.Helper()
	if s, e := Put(m); s != want || e != wantError {
		t.Errorf("Put(%s) = %s, %d; not %s, %d", brief(laid(m)), brief(s), int(e), brief(want), int(wantError))
	}
}

func checkGet(t *testing.T, s string, want api.Model) {
	t.Helper()
	if m, e := Get(s); e != api.OK || laid(m) != laid(want) || !model.Same(m, want) {
		t.Errorf("Get(%s) = %s, %d; not %s", brief(s), brief(laid(m)), int(e), brief(laid(want)))
	}
}

func checkRefused(t *testing.T, s string, want api.Errno, what string) {
	t.Helper()
	if m, e := Get(s); e != want || !isZero(m) {
		t.Errorf("%s: Get(%s) = %s, %d; not %d", what, brief(s), brief(laid(m)), int(e), int(want))
	}
}

// P6.1

func bytesOf(t *testing.T, words ...string) string {
	t.Helper()
	b, err := hex.DecodeString(strings.Join(words, ""))
	if err != nil {
		t.Fatal(err)
	}
	return string(b)
}

// TestPutByHand: a model and its bytes, both written out.
func TestPutByHand(t *testing.T) {
	m := api.Model{
		Seed:     -1,
		End:      zeroBelow,
		Delays:   []float64{1, infinity},
		Programs: [][]api.Ins{{{Op: api.OSet, A: 7, B: -2, C: 256}}, {{Op: api.OHalt}, {Op: api.OJump, A: 2}}},
		LPs:      []api.LP{{Program: 1, Words: []int{math.MinInt, math.MaxInt, 0}}, {}},
		Init:     []api.Init{{T: -2, Dst: 1, Payload: -3}},
	}
	s := bytesOf(t,
		"7fffffffffffffff", "8000000000000000",
		"8000000000000002", "3ff0000000000000", "7ff0000000000000",
		"8000000000000002",
		"8000000000000001", "8000000000000001", "8000000000000007", "7ffffffffffffffe", "8000000000000100",
		"8000000000000002", "8000000000000000", "8000000000000000", "8000000000000000", "8000000000000000",
		"8000000000000009", "8000000000000002", "8000000000000000", "8000000000000000",
		"8000000000000002",
		"8000000000000001", "8000000000000003", "0000000000000000", "ffffffffffffffff", "8000000000000000",
		"8000000000000000", "8000000000000000",
		"8000000000000001", "c000000000000000", "8000000000000001", "7ffffffffffffffd")
	checkPut(t, m, s, api.OK)
	checkGet(t, s, m)
}

func TestPutBeginsWithTheSeed(t *testing.T) {
	for _, n := range edgeInts() {
		m := least()
		m.Seed = n
		var seed sheet
		seed.number(n)
		if s, e := Put(m); e != api.OK || !strings.HasPrefix(s, string(seed.b)) {
			t.Errorf("a seed of %d: %x, %d", n, s, int(e))
		}
	}
}

func TestPutOfModelsThatMayBe(t *testing.T) {
	for _, m := range goodModels() {
		checkPut(t, m, laid(m), api.OK)
	}
}

func TestPutOfModelsThatMayNotBe(t *testing.T) {
	for _, m := range append(badModels(), longModels()...) {
		checkPut(t, m, "", api.ErrModel)
	}
}

func TestPutOfAsManyAsThereMayBe(t *testing.T) {
	s, e := Put(full())
	if want := 8 * (2 + 1 + 8 + 1 + 4*(1+48*4) + 1 + 6*(2+8) + 1 + 16*3); len(s) != want || e != api.OK {
		t.Errorf("%d bytes, not %d; %d", len(s), want, int(e))
	}
	s, e = Put(least())
	if want := 8 * (2 + 1 + 1 + 1 + 1 + 4 + 1 + 2 + 1); len(s) != want || e != api.OK {
		t.Errorf("%d bytes, not %d; %d", len(s), want, int(e))
	}
}

func TestPutOfListsWithoutElements(t *testing.T) {
	none, empty := least(), least()
	empty.LPs[0].Words, empty.Init = []int{}, make([]api.Init, 0, 9)
	checkPut(t, none, laid(none), api.OK)
	checkPut(t, empty, laid(none), api.OK)
}

// spacious has the elements of the ordinary model, in lists behind whose ends lies more.
func spacious() api.Model {
	m := ordinary()
	m.Delays = append(m.Delays, 7, 8)[:len(m.Delays)]
	for i, p := range m.Programs {
		m.Programs[i] = append(p, api.Ins{A: 1})[:len(p)]
	}
	m.Programs = append(m.Programs, []api.Ins{{A: 2}})[:len(m.Programs)]
	for i, p := range m.LPs {
		m.LPs[i].Words = append(p.Words, 9)[:len(p.Words)]
	}
	m.LPs = append(m.LPs, api.LP{Program: 1})[:len(m.LPs)]
	m.Init = append(m.Init, api.Init{T: 3, Payload: 4})[:len(m.Init)]
	return m
}

// spread is a model whose lists reach as far as their room does.
func spread(m api.Model) api.Model {
	m.Delays = m.Delays[:cap(m.Delays)]
	m.Programs = slices.Clone(m.Programs[:cap(m.Programs)])
	for i, p := range m.Programs {
		m.Programs[i] = p[:cap(p)]
	}
	m.LPs = slices.Clone(m.LPs[:cap(m.LPs)])
	for i, p := range m.LPs {
		m.LPs[i].Words = p.Words[:cap(p.Words)]
	}
	m.Init = m.Init[:cap(m.Init)]
	return m
}

func TestPutLeavesModelAndSpareRoom(t *testing.T) {
	m := spacious()
	room := laid(spread(m))
	for range 2 {
		checkPut(t, m, laid(ordinary()), api.OK)
	}
	if laid(m) != laid(ordinary()) || laid(spread(m)) != room {
		t.Errorf("the model was changed: %x", laid(spread(m)))
	}
}

// P6.2

func TestGetOfModelsThatMayBe(t *testing.T) {
	for _, m := range goodModels() {
		checkGet(t, laid(m), m)
	}
}

func TestGetOfModelsThatMayNotBe(t *testing.T) {
	for i, m := range badModels() {
		checkRefused(t, laid(m), api.ErrModel, fmt.Sprint("bad model ", i))
	}
}

func TestGetOfNothing(t *testing.T) {
	checkRefused(t, "", api.ErrShort, "no bytes")
}

// TestGetOfBytesThatEnd: wherever a model's bytes end, even one that may not be.
func TestGetOfBytesThatEnd(t *testing.T) {
	for _, m := range append(badModels(), least(), ordinary(), full()) {
		s := laid(m)
		step := 1 + len(s)/10000
		for n := 0; n < len(s); n += step {
			checkRefused(t, s[:n], api.ErrShort, fmt.Sprint(n, " bytes of ", len(s)))
		}
		checkRefused(t, s[:len(s)-1], api.ErrShort, "all but one")
	}
}

func TestGetOfBytesThatAreLeft(t *testing.T) {
	for _, m := range append(badModels(), least(), ordinary(), full()) {
		s := laid(m)
		for n := 1; n <= 25; n++ {
			checkRefused(t, s+strings.Repeat("\x00", n), api.ErrForm, fmt.Sprint(n, " bytes are left"))
			checkRefused(t, s+strings.Repeat("\x80", n), api.ErrForm, fmt.Sprint(n, " bytes are left"))
		}
		checkRefused(t, s+s, api.ErrForm, "twice")
		checkRefused(t, s+strings.Repeat("x", 1<<16), api.ErrForm, "many bytes are left")
	}
}

func TestGetOfListsThatAreTooLong(t *testing.T) {
	for i, m := range longModels() {
		checkRefused(t, laid(m), api.ErrForm, fmt.Sprint("long model ", i))
	}
}

// TestGetOfListsThatSayWhatMayNotBe: each list in turn, whatever comes behind it.
func TestGetOfListsThatSayWhatMayNotBe(t *testing.T) {
	for _, m := range []api.Model{least(), ordinary(), full()} {
		s := sheetOf(m)
		for _, place := range s.counts {
			for _, n := range []int{-1, -2, -48, -49, math.MinInt, 49, 50, 64, 255, 256, 512, 1 << 32, math.MaxInt} {
				bad := says(string(s.b), place, n)
				what := fmt.Sprint("a list at ", place, " says ", n)
				checkRefused(t, bad, api.ErrForm, what)
				checkRefused(t, bad+"x", api.ErrForm, what+", and a byte is left")
				checkRefused(t, bad[:place+8], api.ErrForm, what+", and all ends")
				checkRefused(t, bad[:place+7], api.ErrShort, what+", and its own bytes end")
			}
		}
	}
}

// TestGetOfListsThatSayOtherwise: each list in turn says how many it may, but not how many there are.
func TestGetOfListsThatSayOtherwise(t *testing.T) {
	for _, m := range []api.Model{least(), ordinary(), full()} {
		s := sheetOf(m)
		for _, place := range s.counts {
			for _, n := range []int{0, 1, 2, 47, 48} {
				other := says(string(s.b), place, n)
				if other == string(s.b) {
					continue
				}
				want := wantError(other)
				if want == api.OK {
					t.Fatal("a model's bytes with another count are whole")
				}
				checkRefused(t, other, want, fmt.Sprint("a list at ", place, " says ", n))
			}
			checkRefused(t, says(string(s.b), place, 48)[:place+8], api.ErrShort, "a list of 48, and all ends")
		}
	}
}

// TestGetOfListsOfNone: only behind the last list may all end; and only words and events may be none.
func TestGetOfListsOfNone(t *testing.T) {
	for _, m := range []api.Model{least(), ordinary(), full()} {
		s := sheetOf(m)
		last := len(s.counts) - 1
		for _, place := range s.counts[:last] {
			checkRefused(t, says(string(s.b), place, 0)[:place+8], api.ErrShort, "a list of none, and all ends")
		}
		place := s.counts[last]
		m.Init = nil
		checkGet(t, says(string(s.b), place, 0)[:place+8], m)
		for i := range m.LPs {
			m.LPs[i].Words = nil
		}
		checkGet(t, laid(m), m)
	}
}

// TestGetOf48: a list of every sort may say 48, and then it is the model that may not be, but for instructions.
func TestGetOf48(t *testing.T) {
	m := ordinary()
	m.Programs[1] = sized(api.Ins{Op: api.OJump, A: 48}, 48)
	checkGet(t, laid(m), m)
	for _, longer := range []func(*api.Model){
		func(m *api.Model) { m.Delays = sized(1.0, 48) },
		func(m *api.Model) { m.Programs = sized([]api.Ins{{}}, 48) },
		func(m *api.Model) { m.LPs = sized(api.LP{}, 48) },
		func(m *api.Model) { m.LPs[1].Words = sized(0, 48) },
		func(m *api.Model) { m.Init = sized(api.Init{}, 48) },
	} {
		m := ordinary()
		longer(&m)
		s := laid(m)
		checkRefused(t, s, api.ErrModel, "a list of 48")
		checkRefused(t, s[:len(s)-1], api.ErrShort, "a list of 48, and all ends")
		checkRefused(t, s+"x", api.ErrForm, "a list of 48, and a byte is left")
	}
}

// TestGetTellsTheFirstError: of two lists that say what may not be, of bytes that end or are left, of what may not be.
func TestGetTellsTheFirstError(t *testing.T) {
	m := ordinary()
	m.End, m.Init[0].T = math.NaN(), math.NaN()
	s := sheetOf(m)
	b := string(s.b)
	checkRefused(t, b, api.ErrModel, "no end alone")
	checkRefused(t, b+"x", api.ErrForm, "a byte is left ahead of no end")
	checkRefused(t, b[:len(b)-1], api.ErrShort, "bytes end ahead of no end")
	for i, place := range s.counts {
		one := says(b, place, -1)
		checkRefused(t, one, api.ErrForm, "a list of -1 ahead of no end")
		for _, later := range s.counts[i+1:] {
			two := says(one, later, 49)
			checkRefused(t, two, api.ErrForm, "two lists")
			checkRefused(t, two[:later], api.ErrForm, "a list of -1 ahead of bytes that end")
			checkRefused(t, says(b, later, -1)[:later-1], api.ErrShort, "bytes end ahead of a list of -1")
			checkRefused(t, says(b, place, 48)[:later], wantError(says(b, place, 48)[:later]), "a list of 48, and bytes end")
		}
	}
}

// TestGetOfTurnedBytes: bytes of models with a byte or two changed, a piece taken out, or put in.
func TestGetOfTurnedBytes(t *testing.T) {
	r := rand.New(rand.NewSource(2))
	seen := map[api.Errno]int{}
	for range 20000 {
		s := []byte(laid(randomModel(r)))
		for range 1 + r.Intn(2) {
			at := r.Intn(len(s))
			switch r.Intn(4) {
			case 0:
				s[at] = byte(r.Intn(256))
			case 1:
				s[at] ^= 1 << r.Intn(8)
			case 2:
				s = slices.Delete(s, at/8*8, at/8*8+8)
			case 3:
				s = slices.Insert(s, at/8*8, s[:8]...)
			}
		}
		want := wantError(string(s))
		m, e := Get(string(s))
		seen[e]++
		if want == api.OK && e == api.ErrModel {
			want = api.ErrModel
		}
		if e != want {
			t.Fatalf("Get(%s): %d, not %d", brief(string(s)), int(e), int(want))
		}
		checkKeptOrZero(t, string(s), m, e)
	}
	for _, e := range []api.Errno{api.OK, api.ErrShort, api.ErrForm, api.ErrModel} {
		if seen[e] < 100 {
			t.Errorf("the error %d came %d times alone", int(e), seen[e])
		}
	}
}

// checkKeptOrZero: what is got may be, and is put as the very bytes; beside an error it is nothing.
func checkKeptOrZero(t *testing.T, s string, m api.Model, e api.Errno) {
	t.Helper()
	if e != api.OK {
		if !isZero(m) {
			t.Fatalf("Get(%s): %s beside %d", brief(s), brief(laid(m)), int(e))
		}
		return
	}
	if model.Check(m) != api.OK || laid(m) != s {
		t.Fatalf("Get(%s): %s", brief(s), brief(laid(m)))
	}
	checkPut(t, m, s, api.OK)
}

func TestGetOfAnyBytes(t *testing.T) {
	r := rand.New(rand.NewSource(3))
	for n := range 600 {
		s := make([]byte, n)
		r.Read(s)
		checkRefused(t, string(s), wantError(string(s)), "any bytes")
	}
	for _, b := range []string{"\x00", "\x7f", "\x80", "\xff"} {
		for n := range 300 {
			s := strings.Repeat(b, n)
			checkRefused(t, s, wantError(s), "one byte again and again")
		}
	}
}

// P6.3

func TestThereAndBack(t *testing.T) {
	for _, m := range goodModels() {
		s, e := Put(m)
		if e != api.OK {
			t.Fatal(int(e))
		}
		checkGet(t, s, m)
	}
}

func TestBackAndThere(t *testing.T) {
	for _, m := range goodModels() {
		got, e := Get(laid(m))
		if e != api.OK {
			t.Fatal(int(e))
		}
		checkPut(t, got, laid(m), api.OK)
	}
}

// TestEachNumberComesBack: each eight bytes of a model's that may be anything, changed alone, change its model alone.
func TestEachNumberComesBack(t *testing.T) {
	free := 0
	s := laid(ordinary())
	for at := 0; at < len(s); at += 8 {
		for _, n := range edgeInts() {
			other := says(s, at, n)
			m, e := Get(other)
			checkKeptOrZero(t, other, m, e)
			if e == api.OK && other != s {
				free++
			}
		}
	}
	if free < 100 {
		t.Error("too few:", free)
	}
}

// R3

// scribble changes every element of every list where it lies, and what lies in the room behind.
func scribble(m api.Model) {
	for i := range m.Delays[:cap(m.Delays)] {
		m.Delays[:cap(m.Delays)][i] = -7
	}
	for _, p := range m.Programs {
		for i := range p[:cap(p)] {
			p[:cap(p)][i] = api.Ins{Op: -7, A: -7, B: -7, C: -7}
		}
	}
	for _, p := range m.LPs {
		for i := range p.Words[:cap(p.Words)] {
			p.Words[:cap(p.Words)][i] = -7
		}
	}
	for i := range m.Init[:cap(m.Init)] {
		m.Init[:cap(m.Init)][i] = api.Init{T: -7, Dst: -7, Payload: -7}
	}
}

func TestGetAnswersNewMemory(t *testing.T) {
	for _, m := range []api.Model{least(), ordinary(), full()} {
		s := laid(m)
		one, _ := Get(s)
		two, _ := Get(s)
		scribble(one)
		for i := range one.LPs {
			one.LPs[i] = api.LP{Program: -7}
		}
		for i := range one.Programs {
			one.Programs[i] = nil
		}
		if laid(two) != s {
			t.Errorf("changed with another that was got: %x", laid(two))
		}
		checkGet(t, s, m)
	}
}

// TestListsOfWhatWasGotAreApart: what is done to one list of a model is done to none of the others, not in the room behind either.
func TestListsOfWhatWasGotAreApart(t *testing.T) {
	m, _ := Get(laid(full()))
	for i := range m.Programs {
		for j := range m.Programs {
			if i != j && &m.Programs[i][0] == &m.Programs[j][0] {
				t.Error("programs share memory:", i, j)
			}
		}
	}
	for i := range m.Programs {
		before := laid(m)
		scribble(api.Model{Programs: m.Programs[i : i+1]})
		copy(m.Programs[i], full().Programs[i])
		if laid(m) != before {
			t.Error("a program shares memory with another list:", i)
		}
	}
	for i := range m.LPs {
		before := laid(m)
		scribble(api.Model{LPs: m.LPs[i : i+1]})
		copy(m.LPs[i].Words, full().LPs[i].Words)
		if laid(m) != before {
			t.Error("words share memory with another list:", i)
		}
	}
}

func TestPutKeepsNothingOfTheModel(t *testing.T) {
	m := ordinary()
	s, _ := Put(m)
	scribble(m)
	if s != laid(ordinary()) {
		t.Errorf("the bytes were changed with the model: %x", s)
	}
	checkPut(t, ordinary(), s, api.OK)
}
