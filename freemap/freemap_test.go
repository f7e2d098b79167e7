package freemap

import (
	"fmt"
	"math"
	"math/rand"
	"slices"
	"strings"
	"testing"

	"horologe/api"
)

// letters stand for the kinds in a text of a map's pages, a letter a page: free, in use, fresh, leaving.
const letters = ".ufl"

// noPages are pages that no map has.
var noPages = []int{-1, -2, -1024, 1024, 1025, 1 << 16, 1 << 32, 1<<32 + 1, math.MaxInt - 1, math.MaxInt, math.MinInt, math.MinInt + 1}

// noKinds are kinds that there aren't.
var noKinds = []int{-1, -2, 4, 5, 256, 257, 1 << 32, 1<<32 + 1, math.MaxInt, math.MinInt}

func newMap(t *testing.T, pages int) *Map {
	t.Helper()
	m, e := New(pages)
	if m == nil || e != api.OK {
		t.Fatal("New", pages, int(e))
	}
	return m
}

func use(t *testing.T, m *Map, i int) {
	t.Helper()
	if e := m.Use(i); e != api.OK {
		t.Fatal("Use", i, int(e))
	}
}

func leave(t *testing.T, m *Map, i int) {
	t.Helper()
	if e := m.Leave(i); e != api.OK {
		t.Fatal("Leave", i, int(e))
	}
}

func take(t *testing.T, m *Map, want int) {
	t.Helper()
	if i, e := m.Take(); i != want || e != api.OK {
		t.Fatal("Take", i, int(e), "not", want)
	}
}

func takeNone(t *testing.T, m *Map, want api.Errno) {
	t.Helper()
	if i, e := m.Take(); i != 0 || e != want {
		t.Error("Take", i, int(e), "not", int(want))
	}
}

func commit(t *testing.T, m *Map) {
	t.Helper()
	if !m.Commit() {
		t.Error("Commit")
	}
}

func abort(t *testing.T, m *Map) {
	t.Helper()
	if !m.Abort() {
		t.Error("Abort")
	}
}

// made makes a map of which each page is what its letter says.
func made(t *testing.T, pages string) *Map {
	t.Helper()
	m := newMap(t, len(pages))
	for i, c := range pages {
		if c == 'u' || c == 'l' {
			use(t, m, i)
		}
	}
	for i, c := range pages {
		if c == '.' || c == 'f' {
			take(t, m, i)
		}
	}
	for i, c := range pages {
		if c == '.' || c == 'l' {
			leave(t, m, i)
		}
	}
	return m
}

// places tells where a letter stands.
func places(pages string, letter byte) []int {
	var l []int
	for i := range len(pages) {
		if pages[i] == letter {
			l = append(l, i)
		}
	}
	return l
}

// looks asks whether all that a map shows is what the letters say.
func looks(t *testing.T, m *Map, pages string) {
	t.Helper()
	var many [4]int
	for kind := range 4 {
		want := places(pages, letters[kind])
		many[kind] = len(want)
		if got := m.List(kind); !slices.Equal(got, want) {
			t.Fatalf("%s: List(%d) = %v, not %v", pages, kind, got, want)
		}
	}
	free, used, fresh, leaving := m.Count()
	if got := [4]int{free, used, fresh, leaving}; got != many {
		t.Fatalf("%s: Count = %v, not %v", pages, got, many)
	}
	if m.Free() != many[0] {
		t.Fatalf("%s: Free = %d, not %d", pages, m.Free(), many[0])
	}
	for i := -2; i < len(pages)+3; i++ {
		want := i >= 0 && i < len(pages) && pages[i] == 'f'
		if m.Fresh(i) != want {
			t.Fatalf("%s: Fresh(%d) = %v", pages, i, !want)
		}
	}
}

// sketch is a map made another way: which pages are in what was committed, and which in what there is now.
type sketch struct {
	pages    int
	was, now map[int]bool
}

func drawn(pages int) *sketch {
	return &sketch{pages: pages, was: map[int]bool{}, now: map[int]bool{}}
}

// drawnOf is the sketch of which each page is what its letter says.
func drawnOf(pages string) *sketch {
	s := drawn(len(pages))
	for i, c := range pages {
		if c == 'u' || c == 'l' {
			s.was[i] = true
		}
		if c == 'u' || c == 'f' {
			s.now[i] = true
		}
	}
	return s
}

func (s *sketch) has(i int) bool { return 0 <= i && i < s.pages }

func (s *sketch) use(i int) api.Errno {
	switch {
	case !s.has(i):
		return api.ErrRange
	case s.was[i] || s.now[i]:
		return api.ErrExist
	}
	s.was[i], s.now[i] = true, true
	return api.OK
}

func (s *sketch) take() (int, api.Errno) {
	for i := range s.pages {
		if !s.was[i] && !s.now[i] {
			s.now[i] = true
			return i, api.OK
		}
	}
	return 0, api.ErrFull
}

func (s *sketch) leave(i int) api.Errno {
	switch {
	case !s.has(i):
		return api.ErrRange
	case !s.now[i]:
		return api.ErrNone
	}
	delete(s.now, i)
	return api.OK
}

func copied(from map[int]bool) map[int]bool {
	to := map[int]bool{}
	for i := range from {
		to[i] = true
	}
	return to
}

func (s *sketch) commit() { s.was = copied(s.now) }

func (s *sketch) abort() { s.now = copied(s.was) }

func (s *sketch) text() string {
	var b strings.Builder
	for i := range s.pages {
		switch {
		case s.was[i] && s.now[i]:
			b.WriteByte('u')
		case s.was[i]:
			b.WriteByte('l')
		case s.now[i]:
			b.WriteByte('f')
		default:
			b.WriteByte('.')
		}
	}
	return b.String()
}

// call is what is done to a map, and to which page.
type call struct {
	what byte
	i    int
}

func (c call) String() string { return fmt.Sprintf("%c%d", c.what, c.i) }

// calls are all that can be done to a map of so many pages, with pages on both sides that it doesn't have.
func calls(pages int) []call {
	l := []call{{'t', 0}, {'c', 0}, {'a', 0}}
	for i := -1; i <= pages; i++ {
		l = append(l, call{'u', i}, call{'l', i})
	}
	return l
}

// do does a call, and tells what it answers; an answer true of Commit and Abort is 1.
func (c call) do(m *Map) (int, api.Errno) {
	done := false
	switch c.what {
	case 'u':
		return 0, m.Use(c.i)
	case 'l':
		return 0, m.Leave(c.i)
	case 't':
		return m.Take()
	case 'c':
		done = m.Commit()
	case 'a':
		done = m.Abort()
	}
	if done {
		return 1, api.OK
	}
	return 0, api.OK
}

// draw does a call to a sketch.
func (c call) draw(s *sketch) (int, api.Errno) {
	switch c.what {
	case 'u':
		return 0, s.use(c.i)
	case 'l':
		return 0, s.leave(c.i)
	case 't':
		return s.take()
	case 'c':
		s.commit()
	case 'a':
		s.abort()
	}
	return 1, api.OK
}

// both does a call to a map and to its sketch, and holds them against each other.
func (c call) both(t *testing.T, m *Map, s *sketch) api.Errno {
	t.Helper()
	before := s.text()
	n, e := c.do(m)
	want, f := c.draw(s)
	if n != want || e != f {
		t.Fatalf("%s: %v answers %d, error %d, not %d, error %d", before, c, n, int(e), want, int(f))
	}
	if f != api.OK && s.text() != before {
		t.Fatalf("%s: %v has changed the sketch", before, c)
	}
	looks(t, m, s.text())
	return e
}

// texts are all texts of so many letters.
func texts(n int) []string {
	if n == 0 {
		return []string{""}
	}
	var l []string
	for _, s := range texts(n - 1) {
		for _, c := range letters {
			l = append(l, s+string(c))
		}
	}
	return l
}

// The document's own words.

func TestExample(t *testing.T) {
	m := newMap(t, 4)
	use(t, m, 0)
	take(t, m, 1)
	leave(t, m, 0)
	take(t, m, 2)
	looks(t, m, "lff.")
	commit(t, m)
	looks(t, m, ".uu.")
	take(t, m, 0)
	looks(t, m, "fuu.")
}

func TestKinds(t *testing.T) {
	if Free != 0 || Used != 1 || Fresh_ != 2 || Leaving != 3 {
		t.Error(Free, Used, Fresh_, Leaving)
	}
}

// P12.1

func TestNew(t *testing.T) {
	for _, n := range []int{0, 1, 2, 3, 64, 255, 256, 257, 1022, 1023, 1024} {
		m := newMap(t, n)
		looks(t, m, strings.Repeat(".", n))
		for i := range n {
			take(t, m, i)
		}
		takeNone(t, m, api.ErrFull)
	}
}

func TestNewRefuses(t *testing.T) {
	for _, n := range []int{-1, -2, -1024, 1025, 1026, 2048, 4096, 1 << 16, 1 << 32, 1<<32 + 1, 1 << 62, math.MaxInt, math.MinInt, math.MinInt + 1} {
		if m, e := New(n); m != nil || e != api.ErrArg {
			t.Error(n, m != nil, int(e))
		}
	}
}

func TestUse(t *testing.T) {
	for _, n := range []int{1, 2, 3, 64, 1023, 1024} {
		m := newMap(t, n)
		pages := []byte(strings.Repeat(".", n))
		for _, i := range []int{0, n - 1, n / 2} {
			want := api.OK
			if pages[i] == 'u' {
				want = api.ErrExist
			}
			if e := m.Use(i); e != want {
				t.Error(n, i, int(e))
			}
			pages[i] = 'u'
			looks(t, m, string(pages))
		}
	}
}

func TestUseRefuses(t *testing.T) {
	for _, pages := range []string{"", ".", "u.fl", strings.Repeat(".", 1024), strings.Repeat("l", 1023)} {
		m := made(t, pages)
		for _, i := range append([]int{len(pages), len(pages) + 1}, noPages...) {
			if e := m.Use(i); e != api.ErrRange {
				t.Error(len(pages), i, int(e))
			}
		}
		looks(t, m, pages)
	}
}

// TestUseExists: none but a free page can come to be in use.
func TestUseExists(t *testing.T) {
	m := made(t, "ufl.")
	for i := range 3 {
		for range 2 {
			if e := m.Use(i); e != api.ErrExist {
				t.Error(i, int(e))
			}
		}
	}
	looks(t, m, "ufl.")
	use(t, m, 3)
	if e := m.Use(3); e != api.ErrExist {
		t.Error(int(e))
	}
	looks(t, m, "uflu")
}

// TestUseStays: what is in use is so by what was committed, whether a Commit comes behind it or an Abort.
func TestUseStays(t *testing.T) {
	m := made(t, "u.u")
	abort(t, m)
	looks(t, m, "u.u")
	commit(t, m)
	looks(t, m, "u.u")
	use(t, m, 1)
	abort(t, m)
	looks(t, m, "uuu")
}

// P12.2

func TestTakeTheFirst(t *testing.T) {
	for _, c := range []struct {
		pages string
		first int
	}{
		{".", 0}, {"..", 0}, {"u.", 1}, {".u", 0}, {"f.", 1}, {"l.", 1}, {"ufl.", 3}, {"ufl.....", 3}, {".ufl.", 0},
		{strings.Repeat("u", 1023) + ".", 1023}, {strings.Repeat("fl", 300) + "..", 600}, {"." + strings.Repeat("f", 1023), 0},
	} {
		m := made(t, c.pages)
		take(t, m, c.first)
		looks(t, m, c.pages[:c.first]+"f"+c.pages[c.first+1:])
	}
}

func TestTakeFull(t *testing.T) {
	for _, pages := range []string{"", "u", "f", "l", "uu", "ff", "ll", "ufl", "lfu", strings.Repeat("u", 1024), strings.Repeat("f", 1024), strings.Repeat("l", 1024), strings.Repeat("ufl", 341)} {
		m := made(t, pages)
		takeNone(t, m, api.ErrFull)
		takeNone(t, m, api.ErrFull)
		looks(t, m, pages)
	}
}

// TestTakeLeft: a fresh one that is left is free, and taken again ahead of those behind it.
func TestTakeLeft(t *testing.T) {
	m := newMap(t, 4)
	take(t, m, 0)
	take(t, m, 1)
	take(t, m, 2)
	leave(t, m, 1)
	looks(t, m, "f.f.")
	take(t, m, 1)
	looks(t, m, "fff.")
	leave(t, m, 2)
	leave(t, m, 0)
	take(t, m, 0)
	take(t, m, 2)
	take(t, m, 3)
	takeNone(t, m, api.ErrFull)
	looks(t, m, "ffff")
}

func TestLeave(t *testing.T) {
	for _, c := range []struct {
		pages string
		i     int
		e     api.Errno
		then  string
	}{
		{"f", 0, api.OK, "."},
		{"u", 0, api.OK, "l"},
		{".", 0, api.ErrNone, "."},
		{"l", 0, api.ErrNone, "l"},
		{"ufl.", 0, api.OK, "lfl."},
		{"ufl.", 1, api.OK, "u.l."},
		{"ufl.", 2, api.ErrNone, "ufl."},
		{"ufl.", 3, api.ErrNone, "ufl."},
		{"ufl.", 4, api.ErrRange, "ufl."},
		{"ufl.", -1, api.ErrRange, "ufl."},
	} {
		m := made(t, c.pages)
		if e := m.Leave(c.i); e != c.e {
			t.Error(c, int(e))
		}
		looks(t, m, c.then)
	}
}

func TestLeaveEnds(t *testing.T) {
	for _, n := range []int{1, 2, 1023, 1024} {
		m := made(t, strings.Repeat("u", n))
		leave(t, m, n-1)
		looks(t, m, strings.Repeat("u", n-1)+"l")
		m = made(t, strings.Repeat("f", n))
		leave(t, m, n-1)
		looks(t, m, strings.Repeat("f", n-1)+".")
		m = made(t, strings.Repeat("u", n))
		leave(t, m, 0)
		looks(t, m, "l"+strings.Repeat("u", n-1))
	}
}

func TestLeaveTwice(t *testing.T) {
	m := made(t, "uf")
	for i := range 2 {
		leave(t, m, i)
		for range 2 {
			if e := m.Leave(i); e != api.ErrNone {
				t.Error(i, int(e))
			}
		}
	}
	looks(t, m, "l.")
}

func TestLeaveRefuses(t *testing.T) {
	for _, pages := range []string{"", ".", "u.fl", strings.Repeat("u", 1024), strings.Repeat("f", 1023)} {
		m := made(t, pages)
		for _, i := range append([]int{len(pages), len(pages) + 1}, noPages...) {
			if e := m.Leave(i); e != api.ErrRange {
				t.Error(len(pages), i, int(e))
			}
		}
		looks(t, m, pages)
	}
}

// P12.3

func TestCommit(t *testing.T) {
	for pages, want := range map[string]string{
		"": "", ".": ".", "u": "u", "f": "u", "l": ".", "u.fl": "u.u.", "ffll": "uu..", "llff": "..uu",
		strings.Repeat("f", 1024):   strings.Repeat("u", 1024),
		strings.Repeat("l", 1024):   strings.Repeat(".", 1024),
		strings.Repeat(".ufl", 256): strings.Repeat(".uu.", 256),
	} {
		m := made(t, pages)
		commit(t, m)
		looks(t, m, want)
		// With nothing between, neither has anything to do.
		commit(t, m)
		looks(t, m, want)
		abort(t, m)
		looks(t, m, want)
	}
}

func TestAbort(t *testing.T) {
	for pages, want := range map[string]string{
		"": "", ".": ".", "u": "u", "f": ".", "l": "u", "u.fl": "u..u", "ffll": "..uu", "llff": "uu..",
		strings.Repeat("f", 1024):   strings.Repeat(".", 1024),
		strings.Repeat("l", 1024):   strings.Repeat("u", 1024),
		strings.Repeat(".ufl", 256): strings.Repeat(".u.u", 256),
	} {
		m := made(t, pages)
		abort(t, m)
		looks(t, m, want)
		abort(t, m)
		looks(t, m, want)
		commit(t, m)
		looks(t, m, want)
	}
}

// TestLeavingBehind: a leaving one is free behind a Commit, and in use behind an Abort, and so once more.
func TestLeavingBehind(t *testing.T) {
	m := made(t, "l")
	abort(t, m)
	if e := m.Use(0); e != api.ErrExist {
		t.Error(int(e))
	}
	takeNone(t, m, api.ErrFull)
	leave(t, m, 0)
	looks(t, m, "l")
	commit(t, m)
	if e := m.Leave(0); e != api.ErrNone {
		t.Error(int(e))
	}
	take(t, m, 0)
	looks(t, m, "f")
	abort(t, m)
	use(t, m, 0)
	looks(t, m, "u")
}

// TestFreshBehind: a fresh one is in use behind a Commit, and free behind an Abort.
func TestFreshBehind(t *testing.T) {
	m := made(t, "f.")
	commit(t, m)
	if m.Fresh(0) {
		t.Error("fresh behind a Commit")
	}
	take(t, m, 1)
	abort(t, m)
	if m.Fresh(1) {
		t.Error("fresh behind an Abort")
	}
	looks(t, m, "u.")
	leave(t, m, 0)
	take(t, m, 1)
	looks(t, m, "lf")
	commit(t, m)
	looks(t, m, ".u")
}

// P12.4

func TestLooksOfNoPage(t *testing.T) {
	for _, pages := range []string{"", "f", "u.fl", strings.Repeat("f", 1024)} {
		m := made(t, pages)
		for _, i := range append([]int{len(pages), len(pages) + 1}, noPages...) {
			if m.Fresh(i) {
				t.Error(len(pages), i)
			}
		}
	}
}

func TestListOfNoKind(t *testing.T) {
	for _, pages := range []string{"", ".", "u.fl", strings.Repeat(".ufl", 256)} {
		m := made(t, pages)
		for _, kind := range noKinds {
			if l := m.List(kind); len(l) != 0 {
				t.Error(len(pages), kind, l)
			}
		}
	}
}

// TestLooksOfOneKind: of a kind that no page is there are none, and all that is there is of the other one.
func TestLooksOfOneKind(t *testing.T) {
	for _, c := range letters {
		for _, n := range []int{1, 2, 1023, 1024} {
			looks(t, made(t, strings.Repeat(string(c), n)), strings.Repeat(string(c), n))
		}
	}
}

// TestLookingChangesNothing: who looks, of whatever kind or page, leaves all as it was.
func TestLookingChangesNothing(t *testing.T) {
	m := made(t, "u.flfu.l")
	for range 3 {
		looks(t, m, "u.flfu.l")
		for _, i := range noPages {
			m.Fresh(i)
		}
		for _, kind := range noKinds {
			m.List(kind)
		}
	}
	take(t, m, 1)
	looks(t, m, "ufflfu.l")
}

// Wrong inputs

func TestNil(t *testing.T) {
	var m *Map
	for _, i := range append([]int{0, 1, 1023}, noPages...) {
		if e := m.Use(i); e != api.ErrNil {
			t.Error("Use", i, int(e))
		}
		if e := m.Leave(i); e != api.ErrNil {
			t.Error("Leave", i, int(e))
		}
		if m.Fresh(i) {
			t.Error("Fresh", i)
		}
	}
	takeNone(t, m, api.ErrNil)
	if m.Commit() || m.Abort() {
		t.Error("Commit or Abort")
	}
	if f, u, n, l := m.Count(); f != 0 || u != 0 || n != 0 || l != 0 || m.Free() != 0 {
		t.Error(f, u, n, l, m.Free())
	}
	for _, kind := range append([]int{0, 1, 2, 3}, noKinds...) {
		if l := m.List(kind); len(l) != 0 {
			t.Error("List", kind, l)
		}
	}
}

// What is answered is no memory of the map's.

func TestListIsNew(t *testing.T) {
	const pages = "u.flfu.lu"
	m := made(t, pages)
	for kind := range 4 {
		l := m.List(kind)
		l = l[:cap(l)]
		for i := range l {
			l[i] = 1 << 40
		}
		_ = append(l[:0], -7)
		looks(t, m, pages)
	}
	// Nor do two lists share any.
	a, b := m.List(Used), m.List(Used)
	a[0], a = 99, append(a, 99)
	if !slices.Equal(b, []int{0, 5, 8}) {
		t.Error(a, b)
	}
}

// TestListStays: a list that was answered stays as it was, whatever becomes of the map.
func TestListStays(t *testing.T) {
	m := made(t, "u.fl")
	var lists [4][]int
	for kind := range 4 {
		lists[kind] = m.List(kind)
	}
	take(t, m, 1)
	leave(t, m, 0)
	commit(t, m)
	use(t, m, 0)
	looks(t, m, "uuu.")
	for kind, want := range [][]int{{1}, {0}, {2}, {3}} {
		if !slices.Equal(lists[kind], want) {
			t.Error(kind, lists[kind])
		}
	}
}

// TestMapsApart: what is done to one map is not done to another one.
func TestMapsApart(t *testing.T) {
	a, b := newMap(t, 3), newMap(t, 3)
	use(t, a, 0)
	take(t, a, 1)
	leave(t, a, 0)
	looks(t, b, "...")
	take(t, b, 0)
	commit(t, b)
	looks(t, a, "lf.")
	abort(t, a)
	looks(t, a, "u..")
	looks(t, b, "u..")
}

// P12.5 and all together

// TestEveryCall does each call to each map that there can be of few pages.
func TestEveryCall(t *testing.T) {
	for n := range 6 {
		for _, pages := range texts(n) {
			for _, c := range calls(n) {
				m, s := made(t, pages), drawnOf(pages)
				looks(t, m, s.text())
				if s.text() != pages {
					t.Fatal(s.text(), pages)
				}
				c.both(t, m, s)
			}
		}
	}
}

// goEveryWay does, behind what was done, all calls in all orders, so many of them at most.
func goEveryWay(t *testing.T, pages, most int, done []call) {
	t.Helper()
	m, s := newMap(t, pages), drawn(pages)
	for _, c := range done {
		c.do(m)
		c.draw(s)
	}
	looks(t, m, s.text())
	if len(done) == most {
		return
	}
	for _, c := range calls(pages) {
		goEveryWay(t, pages, most, append(slices.Clip(done), c))
	}
}

// TestEveryWay: what a map is hangs on what was done to it, from free pages on, in whatever order.
func TestEveryWay(t *testing.T) {
	for pages := range 4 {
		goEveryWay(t, pages, 4, nil)
	}
}

// TestOneOfFour: whatever is done, each page is in just one of the four lists, and the counts are those of the lists.
func TestOneOfFour(t *testing.T) {
	r := rand.New(rand.NewSource(5))
	for _, n := range []int{0, 1, 2, 9, 100, 1024} {
		m := newMap(t, n)
		for range 400 {
			someCall(r, n).do(m)
			in := make([]int, n)
			var many [4]int
			for kind := range 4 {
				l := m.List(kind)
				many[kind] = len(l)
				for _, i := range l {
					in[i]++
				}
			}
			if slices.ContainsFunc(in, func(k int) bool { return k != 1 }) {
				t.Fatal(n, in)
			}
			free, used, fresh, leaving := m.Count()
			if many != [4]int{free, used, fresh, leaving} || free+used+fresh+leaving != n || m.Free() != free {
				t.Fatal(n, many, free, used, fresh, leaving, m.Free())
			}
		}
	}
}

// someCall is any call, of which few make an end of what is fresh and leaving.
func someCall(r *rand.Rand, pages int) call {
	i := r.Intn(pages+2) - 1
	if r.Intn(8) == 0 {
		i = []int{-1, 0, pages - 1, pages}[r.Intn(4)]
	}
	switch k := r.Intn(40); {
	case k < 14:
		return call{'t', 0}
	case k < 30:
		return call{'l', i}
	case k < 36:
		return call{'u', i}
	case k < 38:
		return call{'c', 0}
	}
	return call{'a', 0}
}

// TestRandom does what comes to maps of several sizes, and to sketches of them, step by step.
func TestRandom(t *testing.T) {
	r := rand.New(rand.NewSource(12))
	tried := map[string]int{}
	for _, n := range []int{0, 1, 2, 3, 7, 20, 64, 255, 1023, 1024} {
		m, s := newMap(t, n), drawn(n)
		for range 2000 {
			c := someCall(r, n)
			e := c.both(t, m, s)
			tried[fmt.Sprintf("%c%d", c.what, e)]++
		}
	}
	for _, what := range []string{"u0", "u3", "u10", "t0", "t11", "l0", "l3", "l9", "c0", "a0"} {
		if tried[what] < 100 {
			t.Error("too little was tried of", what, tried)
		}
	}
}

// TestFilled fills and empties maps, so that Take comes to their ends.
func TestFilled(t *testing.T) {
	r := rand.New(rand.NewSource(3))
	for _, n := range []int{1, 5, 33, 1024} {
		m, s := newMap(t, n), drawn(n)
		for range 6 {
			for range n + 1 {
				i, e := m.Take()
				if want, f := s.take(); i != want || e != f {
					t.Fatal(n, i, int(e), want, int(f))
				}
			}
			takeNone(t, m, api.ErrFull)
			call{"ca"[r.Intn(2)], 0}.both(t, m, s)
			for _, i := range r.Perm(n)[:r.Intn(n+1)] {
				if e := m.Leave(i); e != s.leave(i) {
					t.Fatal(n, i, int(e))
				}
			}
			looks(t, m, s.text())
		}
	}
}

// P12.6

func TestKeptTillCommitted(t *testing.T) {
	m := made(t, "uu")
	for range 3 {
		leave(t, m, 0)
		takeNone(t, m, api.ErrFull)
		if e := m.Use(0); e != api.ErrExist {
			t.Error(int(e))
		}
		abort(t, m)
		takeNone(t, m, api.ErrFull)
	}
	leave(t, m, 0)
	leave(t, m, 1)
	takeNone(t, m, api.ErrFull)
	commit(t, m)
	take(t, m, 0)
	take(t, m, 1)
	takeNone(t, m, api.ErrFull)
	commit(t, m)
	takeNone(t, m, api.ErrFull)
	abort(t, m)
	takeNone(t, m, api.ErrFull)
	looks(t, m, "uu")
}

// TestKept keeps a diary of what was committed alone: no such page may be taken.
func TestKept(t *testing.T) {
	r := rand.New(rand.NewSource(6))
	refused, again := 0, 0
	for round := range 60 {
		n := 1 + round%30
		m := newMap(t, n)
		kept, taken, left, was := map[int]bool{}, map[int]bool{}, map[int]bool{}, map[int]bool{}
		for range 200 {
			c := someCall(r, n)
			i, e := c.do(m)
			switch {
			case c.what == 't' && e == api.OK:
				if kept[i] || taken[i] {
					t.Fatal(n, i, "was committed, or taken already")
				}
				if was[i] {
					again++
				}
				taken[i] = true
			case c.what == 't':
				// Full are those alone of which each page is kept or taken.
				refused++
				if len(kept)+len(taken) != n {
					t.Fatal(n, len(kept), len(taken))
				}
			case c.what == 'u' && e == api.OK:
				kept[c.i] = true
			case c.what == 'l' && e == api.OK && taken[c.i]:
				delete(taken, c.i)
			case c.what == 'l' && e == api.OK:
				left[c.i] = true
			case c.what == 'c':
				for i := range left {
					delete(kept, i)
					was[i] = true
				}
				for i := range taken {
					kept[i] = true
				}
				clear(taken)
				clear(left)
			case c.what == 'a':
				clear(taken)
				clear(left)
			}
		}
	}
	if refused < 200 || again < 200 {
		t.Error("too little was tried", refused, again)
	}
}

// TestAgain: the same calls make the same map.
func TestAgain(t *testing.T) {
	const n = 50
	var texts [2]string
	for k := range texts {
		r := rand.New(rand.NewSource(9))
		m := newMap(t, n)
		var b strings.Builder
		for range 500 {
			i, e := someCall(r, n).do(m)
			f, u, x, l := m.Count()
			fmt.Fprintln(&b, i, int(e), f, u, x, l, m.List(Free), m.List(Used), m.List(Fresh_), m.List(Leaving))
		}
		texts[k] = b.String()
	}
	if texts[0] != texts[1] {
		t.Error("unlike")
	}
}
