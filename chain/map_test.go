package chain_test

import (
	"maps"
	"math/rand"
	"slices"
	"testing"

	"horologe/api"
	"horologe/chain"
	"horologe/root"
)

// P16.3

// TestBack: values of every length, in pools of few frames and of many, also behind a commit and opened anew.
func TestBack(t *testing.T) {
	for _, frames := range []int{1, 2, 5, 32} {
		r := begun(t, 14, frames)
		for n := range 1025 {
			value := text(n, n)
			first := r.put(value)
			r.gets(first, value)
			if n%64 < 2 || n%228 < 2 {
				r.commits()
				r.gets(first, value)
				r.anew(frames)
				r.gets(first, value)
			}
			r.drops(first, api.OK)
			r.there()
			if n%7 == 0 {
				r.commits()
			}
			if t.Failed() {
				t.Fatal(frames, n)
			}
		}
	}
}

// TestBackAborted: behind an abort there is what was committed.
func TestBackAborted(t *testing.T) {
	for _, frames := range []int{1, 3, 32} {
		r := begun(t, 30, frames)
		r.puts(text(600, 1), 2)
		r.puts(text(300, 2), 4)
		r.commits()
		r.drops(2, api.OK)
		r.puts(text(1000, 3), 6)
		r.gets(6, text(1000, 3))
		r.aborts()
		r.there(0, 1, 2, 3, 4)
		r.gets(2, text(600, 1))
		r.gets(4, text(300, 2))
		r.refused(6, api.ErrRange)
		r.puts(text(1000, 3), 9)
		r.aborts()
		r.refused(9, api.ErrRange)
		r.gets(4, text(300, 2))
	}
}

// P16.4

// TestNoneLeft: what is dropped leaves as many free pages as there were: at once, and behind commits.
func TestNoneLeft(t *testing.T) {
	for n, many := range sizes {
		r := begun(t, 24, 2)
		r.puts("first", 0)
		r.commits()
		before := r.free()
		r.unchanged(func() {
			l := r.put(text(n, 0))
			if got := r.free(); got != before-many {
				t.Error(n, got, before, many)
			}
			r.drops(l, api.OK)
		})
		l := r.put(text(n, 0))
		r.commits()
		if got := r.free(); got != before-many {
			t.Error(n, got, before, many)
		}
		r.gets(l, text(n, 0))
		r.drops(l, api.OK)
		r.memory(0)
		if _, _, _, leaving := r.s.Count(); leaving != many {
			t.Error(n, leaving, many)
		}
		r.commits()
		if got := r.free(); got != before {
			t.Error(n, got, before)
		}
		r.there(0)
	}
}

// TestNoneLeftOften: so that there is room for ever.
func TestNoneLeftOften(t *testing.T) {
	r := begun(t, 12, 1)
	for i := range 300 {
		for _, n := range lengths() {
			l := r.put(text(n, i))
			if i%10 == 0 && n > 900 {
				r.commits()
			}
			r.drops(l, api.OK)
		}
		if i%10 == 0 {
			r.commits()
		}
		if i%10 == 9 && r.free() != 12 {
			t.Fatal(i, r.free())
		}
	}
}

// P16.5

// TestApart: what is done with one chain leaves the pages of the others as they are, byte by byte.
func TestApart(t *testing.T) {
	r := begun(t, 60, 3)
	firsts := map[int]string{}
	for i, n := range lengths() {
		value := text(n, i)
		firsts[r.put(value)] = value
		if len(firsts) == 9 {
			break
		}
	}
	for _, first := range slices.Sorted(maps.Keys(firsts)) {
		others := map[int]string{}
		for l, value := range firsts {
			if l != first {
				others[l] = value
			}
		}
		before := r.look().payloads
		mine, _ := chain.Pages(r.p, first)
		r.drops(first, api.OK)
		for _, l := range mine {
			delete(before, l)
		}
		if got := r.look().payloads; !maps.Equal(got, before) {
			t.Error(first, "others have changed by Drop")
		}
		value := text(1024, first)
		delete(firsts, first)
		l := r.put(value)
		firsts[l] = value
		made, _ := chain.Pages(r.p, l)
		after := r.look().payloads
		for _, i := range made {
			if _, is := before[i]; is {
				t.Error(first, "page", i, "was another's")
			}
			delete(after, i)
		}
		if !maps.Equal(after, before) {
			t.Error(first, "others have changed by Put")
		}
		for i, want := range others {
			r.gets(i, want)
		}
	}
}

// TestPoolsApart: pools over two disks know nothing of one another.
func TestPoolsApart(t *testing.T) {
	a, b := begun(t, 12, 2), begun(t, 12, 2)
	a.puts(text(300, 1), 1)
	b.refused(1, api.ErrRange)
	b.puts(text(600, 2), 2)
	a.gets(1, text(300, 1))
	a.drops(1, api.OK)
	b.gets(2, text(600, 2))
	b.goes(2, 2, 1, 0)
}

// kept is a plain map of values by their chains' first pages, and of the pages that each one has.
type kept struct {
	values map[int]string
	pages  map[int][]int
	// others are pages of no chain, which are changed in the pool, so that there is something to be written back.
	others map[int]string
}

func (k kept) clone() kept {
	return kept{maps.Clone(k.values), maps.Clone(k.pages), maps.Clone(k.others)}
}

// firsts are the chains' first pages, rising.
func (k kept) firsts() []int { return slices.Sorted(maps.Keys(k.values)) }

// taken are all pages that there are, rising.
func (k kept) taken() []int {
	l := slices.Collect(maps.Keys(k.others))
	for _, pages := range k.pages {
		l = append(l, pages...)
	}
	slices.Sort(l)
	return l
}

// next are the n least pages that there are not, falling: those of the next chain.
func (k kept) next(n int) []int {
	taken, l := k.taken(), []int(nil)
	for i := 0; len(l) < n; i++ {
		if !slices.Contains(taken, i) {
			l = append(l, i)
		}
	}
	slices.Reverse(l)
	return l
}

// play is a rig, what there has to be on it now, and what was committed.
type play struct {
	*rig
	x              *rand.Rand
	frames         int
	now, committed kept
}

func played(t *testing.T, seed int64, physical, frames, others int) *play {
	t.Helper()
	y := &play{rig: begun(t, physical, frames), x: rand.New(rand.NewSource(seed)), frames: frames}
	y.now = kept{map[int]string{}, map[int][]int{}, map[int]string{}}
	for range others {
		y.now.others[y.page("other")] = "other"
	}
	y.commits()
	y.committed = y.now.clone()
	return y
}

// full tells whether an error is one of room, where there was none: what is dirty can't be written.
func (y *play) full(e api.Errno) bool { return e == api.ErrFull && y.free() == 0 }

// length is how long a value is to be.
func (y *play) length() int {
	if l := lengths(); y.x.Intn(2) == 0 {
		return l[y.x.Intn(len(l))]
	}
	return y.x.Intn(1030)
}

// pick is a chain's first page (false: there is none).
func (y *play) pick() (int, bool) {
	l := y.now.firsts()
	if len(l) == 0 {
		return 0, false
	}
	return l[y.x.Intn(len(l))], true
}

func (y *play) puts() {
	y.Helper()
	value := text(y.length(), y.x.Intn(251))
	many := chain.Need(len(value))
	free := y.free()
	l, e := chain.Put(y.p, value)
	switch {
	case len(value) > 1024:
		if l != 0 || e != api.ErrBig {
			y.Error("Put", len(value), l, int(e))
		}
	case many > free:
		if l != 0 || e != api.ErrFull || y.free() != free {
			y.Error("Put", len(value), l, int(e), free)
		}
	default:
		pages := y.now.next(many)
		if l != pages[0] || e != api.OK || y.free() != free-many {
			y.Error("Put", len(value), l, int(e), pages, free)
		}
		y.now.values[l], y.now.pages[l] = value, pages
	}
}

// reads holds what a chain says, and which pages it has, from one of its pages on.
func (y *play) reads(first int) {
	y.Helper()
	i := 0
	if y.x.Intn(3) == 0 {
		i = y.x.Intn(len(y.now.pages[first]))
	}
	pages, value := y.now.pages[first][i:], y.now.values[first][228*i:]
	if got, e := chain.Get(y.p, pages[0]); !y.full(e) && (got != value || e != api.OK) {
		y.Errorf("Get(%d) = %q, error %d, not %q", pages[0], got, int(e), value)
	}
	if got, e := chain.Pages(y.p, pages[0]); !y.full(e) && (!slices.Equal(got, pages) || e != api.OK) {
		y.Errorf("Pages(%d) = %v, error %d, not %v", pages[0], got, int(e), pages)
	}
}

func (y *play) drops(first int) {
	y.Helper()
	e := chain.Drop(y.p, first)
	if y.full(e) {
		return
	}
	if e != api.OK {
		y.Error("Drop", first, int(e))
	}
	delete(y.now.values, first)
	delete(y.now.pages, first)
}

// changes changes one of the other pages, in the pool.
func (y *play) changes() {
	y.Helper()
	l := slices.Sorted(maps.Keys(y.now.others))
	if len(l) == 0 {
		return
	}
	i, payload := l[y.x.Intn(len(l))], text(y.x.Intn(233), y.x.Intn(251))
	switch e := y.p.Put(i, payload); {
	case e == api.OK:
		y.now.others[i] = payload
	case !y.full(e):
		y.Error("pool.Put", i, int(e))
	}
}

func (y *play) commit() {
	y.Helper()
	switch e := y.p.Commit(); {
	case e == api.OK:
		y.committed = y.now.clone()
	case e != api.ErrFull:
		y.Error("Commit", int(e))
	}
}

// ends aborts, or opens anew: what was committed is there.
func (y *play) ends() {
	y.Helper()
	if y.x.Intn(2) == 0 {
		y.aborts()
	} else {
		y.anew(y.frames)
	}
	y.now = y.committed.clone()
	y.all()
}

// all holds all that there is.
func (y *play) all() {
	y.Helper()
	for _, l := range y.now.firsts() {
		y.reads(l)
	}
	for l, want := range y.now.others {
		if got, e := y.p.Get(l); !y.full(e) && (got != full(want) || e != api.OK) {
			y.Errorf("another page, %d: %q, error %d, not %q", l, got, int(e), want)
		}
	}
}

// step does one act, and holds what it answers.
func (y *play) step() {
	y.Helper()
	first, some := y.pick()
	switch y.x.Intn(20) {
	case 0, 1, 2, 3, 4, 5:
		y.puts()
	case 6, 7, 8, 9:
		if some {
			y.reads(first)
		}
	case 10, 11, 12:
		if some {
			y.drops(first)
		}
	case 13, 14, 15:
		y.changes()
	case 16:
		y.p.Evict(y.x.Intn(y.frames))
	case 17:
		y.commit()
	case 18:
		if y.x.Intn(4) == 0 {
			y.ends()
		}
	case 19:
		l := y.x.Intn(515) - 1
		if !slices.Contains(y.now.taken(), l) {
			y.refused(l, api.ErrRange)
		}
	}
	y.there(y.now.taken()...)
	if _, _, held := y.p.Count(); held != 0 {
		y.Error(held, "pages are held")
	}
}

// TestAgainstMap: many values put, got and dropped, one behind the other, with commits and aborts between, against a plain map of values; with room enough, and with little.
func TestAgainstMap(t *testing.T) {
	for seed := range int64(150) {
		frames := []int{1, 2, 3, 5, 8, 32}[seed%6]
		physical := []int{200, 40, 18, 10}[seed%4]
		y := played(t, seed, physical, frames, int(seed%5))
		for i := range 250 {
			y.step()
			if t.Failed() {
				t.Fatal("seed", seed, "act", i)
			}
		}
		y.all()
		y.aborts()
		y.now = y.committed.clone()
		y.all()
		y.empties()
		if t.Failed() {
			t.Fatal("seed", seed, "at the end")
		}
	}
}

// empties drops all chains: what is free then is all but the other pages, and the table.
func (y *play) empties() {
	y.Helper()
	for _, l := range y.now.firsts() {
		y.drops(l)
	}
	y.there(slices.Sorted(maps.Keys(y.now.others))...)
	y.commits()
	others := len(y.now.others)
	if got, want := y.free(), (y.d.Sectors()-2)/4-others-root.Need(others); got != want {
		y.Error(got, "pages are free, not", want)
	}
}

// TestAgain: the same acts make the same disk, and answer the same.
func TestAgain(t *testing.T) {
	var looks [2]look
	for i := range looks {
		y := played(t, 7, 60, 3, 3)
		for range 200 {
			y.step()
		}
		looks[i] = y.look()
	}
	if !looks[0].same(looks[1]) {
		t.Error("two stores")
	}
}

// TestManyChains: as many as there is room for, and all of them dropped, in another order.
func TestManyChains(t *testing.T) {
	y := played(t, 11, 1023, 32, 1)
	free := y.free()
	for y.now.next(1)[0] < 500 && y.free() > 6 {
		y.puts()
	}
	y.commit()
	y.all()
	l := y.now.firsts()
	y.x.Shuffle(len(l), func(i, j int) { l[i], l[j] = l[j], l[i] })
	for i, first := range l {
		y.drops(first)
		if i%20 == 0 {
			y.all()
		}
		if t.Failed() {
			t.Fatal(i, first)
		}
	}
	y.there(0)
	y.commit()
	if y.free() != free {
		t.Error(y.free(), free)
	}
}
