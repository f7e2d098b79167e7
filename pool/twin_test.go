package pool_test

import (
	"maps"
	"math/rand"
	"slices"
	"strings"
	"testing"

	"horologe/api"
	"horologe/disk"
	"horologe/shadow"
)

// kept is a page that a twin has in memory.
type kept struct {
	l           int
	says        string
	holds       int
	dirty, used bool
}

// twin is what a pool has to be, over a disk and a store of its own: what each frame has (nil: it is empty), and the hand.
type twin struct {
	d      *disk.Disk
	s      *shadow.Store
	frames []*kept
	hand   int
}

// at is which frame has a page (-1: none).
func (w *twin) at(l int) int {
	return slices.IndexFunc(w.frames, func(k *kept) bool { return k != nil && k.l == l })
}

// goes is which frame is to go, with no empty one (-1: all are held).
func (w *twin) goes() int {
	if !slices.ContainsFunc(w.frames, func(k *kept) bool { return k.holds == 0 }) {
		return -1
	}
	for {
		i := w.hand
		w.hand++
		if w.hand == len(w.frames) {
			w.hand = 0
		}
		if w.frames[i].holds > 0 {
			continue
		}
		if !w.frames[i].used {
			return i
		}
		w.frames[i].used = false
	}
}

func (w *twin) hold(l int) (string, api.Errno) {
	i := w.at(l)
	if i < 0 {
		says, e := w.s.Read(l)
		if e != api.OK {
			return "", e
		}
		if i = slices.Index(w.frames, nil); i < 0 {
			if i = w.goes(); i < 0 {
				return "", api.ErrPool
			}
			if e := w.evict(i); e != api.OK {
				return "", e
			}
		}
		w.frames[i] = &kept{l: l, says: says}
	}
	w.frames[i].holds++
	w.frames[i].used = true
	return w.frames[i].says, api.OK
}

func (w *twin) let(l int) api.Errno {
	i := w.at(l)
	if i < 0 || w.frames[i].holds == 0 {
		return api.ErrPinned
	}
	w.frames[i].holds--
	return api.OK
}

func (w *twin) set(l int, payload string) api.Errno {
	if len(payload) > 232 {
		return api.ErrBig
	}
	i := w.at(l)
	if i < 0 || w.frames[i].holds == 0 {
		return api.ErrPinned
	}
	k := w.frames[i]
	k.says, k.dirty, k.used = full(payload), true, true
	return api.OK
}

func (w *twin) get(l int) (string, api.Errno) {
	says, e := w.hold(l)
	if e == api.OK {
		w.let(l)
	}
	return says, e
}

func (w *twin) put(l int, payload string) api.Errno {
	if len(payload) > 232 {
		return api.ErrBig
	}
	_, e := w.hold(l)
	if e == api.OK {
		w.set(l, payload)
		w.let(l)
	}
	return e
}

func (w *twin) drop(l int) api.Errno {
	i := w.at(l)
	if i >= 0 && w.frames[i].holds > 0 {
		return api.ErrPinned
	}
	e := w.s.Drop(l)
	if e == api.OK && i >= 0 {
		w.frames[i] = nil
	}
	return e
}

func (w *twin) evict(i int) api.Errno {
	if i < 0 || i >= len(w.frames) {
		return api.ErrRange
	}
	k := w.frames[i]
	if k == nil {
		return api.OK
	}
	if k.holds > 0 {
		return api.ErrPinned
	}
	if k.dirty {
		if e := w.s.Write(k.l, k.says); e != api.OK {
			return e
		}
	}
	w.frames[i] = nil
	return api.OK
}

func (w *twin) commit() api.Errno {
	for _, k := range w.frames {
		if k != nil && k.holds > 0 {
			return api.ErrPinned
		}
	}
	for _, k := range w.frames {
		if k != nil && k.dirty {
			if e := w.s.Write(k.l, k.says); e != api.OK {
				return e
			}
			k.dirty = false
		}
	}
	return w.s.Commit()
}

func (w *twin) abort() {
	w.frames = make([]*kept, len(w.frames))
	w.s.Abort()
}

func (w *twin) pages() []int {
	l := []int{}
	for _, k := range w.frames {
		if k != nil {
			l = append(l, k.l)
		}
	}
	return slices.Sorted(slices.Values(l))
}

func (w *twin) held() int {
	n := 0
	for _, k := range w.frames {
		if k != nil && k.holds > 0 {
			n++
		}
	}
	return n
}

// image is all that a disk's sectors say, if it is up.
func image(d *disk.Disk) string {
	var b strings.Builder
	for i := range d.Sectors() {
		s, _ := d.Read(i)
		b.WriteString(s)
	}
	return b.String()
}

// storeShows is what a store's looks show.
type storeShows struct {
	epoch                      int
	free, used, fresh, leaving int
}

func showsOf(s *shadow.Store) storeShows {
	x := storeShows{epoch: s.Epoch()}
	x.free, x.used, x.fresh, x.leaving = s.Count()
	return x
}

// shows holds that a rig is as its twin: what the pool shows, its store and its disk.
func (w *twin) shows(r *rig) {
	r.Helper()
	r.has(w.pages()...)
	r.counts(len(w.frames), len(w.pages()), w.held())
	if r.p.Store() != r.s {
		r.Error("another store")
	}
	if got, want := showsOf(r.s), showsOf(w.s); got != want {
		r.Errorf("the store is %v, not %v", got, want)
	}
	if !slices.Equal(r.s.Pages(), w.s.Pages()) || !slices.Equal(r.s.Reach(), w.s.Reach()) {
		r.Error("the store's pages are others")
	}
	if r.d.Calls() != w.d.Calls() || r.d.Loose() != w.d.Loose() || r.d.Down() != w.d.Down() {
		r.Errorf("the disk: %d calls, %d loose, down: %v; not %d, %d, %v", r.d.Calls(), r.d.Loose(), r.d.Down(), w.d.Calls(), w.d.Loose(), w.d.Down())
	}
	if image(r.d) != image(w.d) {
		r.Error("the disk says something else")
	}
}

// somewhere is a logical page: one that is there mostly, and often one that is in memory, or held.
func (w *twin) somewhere(x *rand.Rand) int {
	switch x.Intn(12) {
	case 0:
		return badPages[x.Intn(len(badPages))]
	case 1:
		return x.Intn(14)
	case 2, 3, 4:
		if k := w.frames[x.Intn(len(w.frames))]; k != nil {
			return k.l
		}
	}
	if l := w.s.Pages(); len(l) > 0 {
		return l[x.Intn(len(l))]
	}
	return x.Intn(3)
}

func randomPayload(x *rand.Rand) string {
	n := []int{0, 1, 5, 60, 100, 231, 232, 233, x.Intn(233)}[x.Intn(9)]
	return text(n, x.Intn(1000))
}

// step does one act with a pool and its twin, and holds what it answers.
func (w *twin) step(r *rig, x *rand.Rand) {
	r.Helper()
	l, payload := w.somewhere(x), randomPayload(x)
	says := func(act string, got string, e api.Errno, want string, f api.Errno) {
		if got != want || e != f {
			r.Errorf("%s(%d) = %q, error %d, not %q, error %d", act, l, got, int(e), want, int(f))
		}
	}
	switch x.Intn(24) {
	case 0, 1, 2:
		got, e := r.p.Hold(l)
		want, f := w.hold(l)
		says("Hold", got, e, want, f)
	case 3, 4, 5, 6:
		r.lets(l, w.let(l))
	case 7, 8:
		r.sets(l, payload, w.set(l, payload))
	case 9, 10, 11, 12:
		got, e := r.p.Get(l)
		want, f := w.get(l)
		says("Get", got, e, want, f)
	case 13, 14, 15, 16:
		r.puts(l, payload, w.put(l, payload))
	case 17:
		n, f := w.s.New(payload)
		if got, e := r.p.New(payload); got != n || e != f {
			r.Errorf("New = %d, error %d, not %d, error %d", got, int(e), n, int(f))
		}
	case 18:
		r.drops(l, w.drop(l))
	case 19, 20:
		i := x.Intn(len(w.frames)+3) - 1
		r.evicts(i, w.evict(i))
	case 21, 22:
		w.steadily(r, x)
		r.commits(w.commit())
	case 23:
		if x.Intn(3) == 0 {
			r.aborts()
			w.abort()
		}
	}
}

// steadily lets all that is held, mostly, so that commits come about.
func (w *twin) steadily(r *rig, x *rand.Rand) {
	r.Helper()
	if x.Intn(4) == 0 {
		return
	}
	for _, l := range w.pages() {
		for w.let(l) == api.OK {
			r.lets(l, api.OK)
		}
	}
}

// emptied holds which page each frame has, by evicting one behind the other.
func (w *twin) emptied(r *rig) {
	r.Helper()
	for i := range w.frames {
		r.evicts(i, w.evict(i))
		r.has(w.pages()...)
	}
}

// arm lets both disks go down at the n-th call.
func (w *twin) arm(r *rig, n int) {
	r.d.Arm(n)
	w.d.Arm(n)
}

// crash lets both disks crash, and what is left is opened anew; or all is kept, and the pool goes on.
func (w *twin) crash(r *rig, x *rand.Rand) {
	r.Helper()
	keep := make([]bool, r.d.Loose())
	often := x.Intn(5)
	for i := range keep {
		keep[i] = x.Intn(4) < often
	}
	c := api.Crash{Keep: keep, Torn: x.Intn(len(keep)+1) - 1, Bytes: x.Intn(65)}
	goesOn := often == 4 && x.Intn(2) == 0
	if goesOn {
		// The store isn't told of a crash: what it wrote must be there.
		c.Torn = -1
	}
	r.d.Crash(c)
	w.d.Crash(c)
	if !goesOn {
		w.anew(r, 1+x.Intn(5))
	}
}

// anew opens both disks anew, with so many frames.
func (w *twin) anew(r *rig, frames int) {
	r.Helper()
	r.s, w.s = open(r.T, r.d), open(r.T, w.d)
	r.p = newPool(r.T, r.s, frames)
	w.frames, w.hand = make([]*kept, frames), 0
}

// twinned is a rig and its twin.
func twinned(t *testing.T, physical, logical, frames int) (*rig, *twin) {
	t.Helper()
	r, o := begun(t, physical, logical, frames), begun(t, physical, logical, frames)
	return r, &twin{d: o.d, s: o.s, frames: make([]*kept, frames)}
}

// TestAgainstTwin: many acts of every kind, one behind the other.
func TestAgainstTwin(t *testing.T) {
	for seed := range int64(150) {
		x := rand.New(rand.NewSource(seed))
		r, w := twinned(t, 8+x.Intn(16), 2+x.Intn(6), 1+x.Intn(5))
		for i := range 250 {
			w.step(r, x)
			w.shows(r)
			if t.Failed() {
				t.Fatal("seed", seed, "act", i)
			}
		}
		w.emptied(r)
		w.shows(r)
		if t.Failed() {
			t.Fatal("seed", seed, "at the end")
		}
	}
}

// TestAgainstTwinManyFrames: with as many frames as there may be, too.
func TestAgainstTwinManyFrames(t *testing.T) {
	for seed, frames := range []int{8, 20, 31, 32} {
		x := rand.New(rand.NewSource(int64(1000 + seed)))
		r, w := twinned(t, 120, frames+8, frames)
		for i := range 800 {
			w.step(r, x)
			w.shows(r)
			if t.Failed() {
				t.Fatal("frames", frames, "act", i)
			}
		}
		w.emptied(r)
		w.shows(r)
	}
}

// TestAgainstTwinDown: with disks that go down now and then, at any call, and crash, and come up.
func TestAgainstTwinDown(t *testing.T) {
	for seed := range int64(150) {
		x := rand.New(rand.NewSource(5000 + seed))
		r, w := twinned(t, 8+x.Intn(12), 2+x.Intn(6), 1+x.Intn(5))
		for i := range 250 {
			if x.Intn(8) == 0 {
				w.arm(r, 1+x.Intn(20))
			}
			w.step(r, x)
			w.shows(r)
			if r.d.Down() && x.Intn(4) == 0 || x.Intn(60) == 0 {
				w.crash(r, x)
				w.shows(r)
			}
			if t.Failed() {
				t.Fatal("seed", seed, "act", i)
			}
		}
	}
}

// TestAgain: the same acts make the same disk.
func TestAgain(t *testing.T) {
	var images [2]string
	for i := range images {
		x := rand.New(rand.NewSource(5))
		r, w := twinned(t, 20, 6, 3)
		for range 300 {
			w.step(r, x)
		}
		images[i] = image(r.d)
	}
	if images[0] != images[1] {
		t.Error("two disks")
	}
}

// P15.7, P15.8, P15.9

// plain is what whoever goes through a pool has to see, whatever the frames do: what each page says, now and in what was committed, and how often it is held.
type plain struct {
	now, committed map[int]string
	holds          map[int]int
}

func (m *plain) clone() map[int]string { return maps.Clone(m.now) }

// pages are the pages that are there, rising.
func (m *plain) pages() []int { return slices.Sorted(maps.Keys(m.now)) }

// least is the least page that is not there.
func (m *plain) least() int {
	l := 0
	for {
		if _, is := m.now[l]; !is {
			return l
		}
		l++
	}
}

// reads holds what a page says, read either way.
func (m *plain) reads(r *rig, x *rand.Rand, l int) {
	r.Helper()
	if x.Intn(2) == 0 {
		got, e := r.p.Get(l)
		m.said(r, l, got, e)
		return
	}
	got, e := r.p.Hold(l)
	m.said(r, l, got, e)
	if e == api.OK {
		m.holds[l]++
	}
}

// said holds what reading a page has answered; where there is no room it may be left.
func (m *plain) said(r *rig, l int, got string, e api.Errno) {
	r.Helper()
	want, is := m.now[l]
	switch {
	case !is && e == api.ErrRange && got == "":
	case is && e == api.OK && got == want:
	case is && m.holds[l] == 0 && (e == api.ErrPool || e == api.ErrFull) && got == "":
	default:
		r.Errorf("page %d says %q, error %d, not %q", l, got, int(e), want)
	}
}

// writes changes a page either way; where there is no room it stays as it was.
func (m *plain) writes(r *rig, x *rand.Rand, l int) {
	r.Helper()
	payload := text(x.Intn(233), x.Intn(1000))
	_, is := m.now[l]
	e := api.OK
	if m.holds[l] > 0 && x.Intn(2) == 0 {
		e = r.p.Set(l, payload)
	} else {
		e = r.p.Put(l, payload)
	}
	switch {
	case !is && e == api.ErrRange:
	case is && e == api.OK:
		m.now[l] = full(payload)
	case is && m.holds[l] == 0 && (e == api.ErrPool || e == api.ErrFull):
	default:
		r.Errorf("page %d, which is there: %v, is written: error %d", l, is, int(e))
	}
}

func (m *plain) lets(r *rig, l int) {
	r.Helper()
	if m.holds[l] == 0 {
		r.lets(l, api.ErrPinned)
		return
	}
	r.lets(l, api.OK)
	m.holds[l]--
}

func (m *plain) makes(r *rig, x *rand.Rand) {
	r.Helper()
	payload := text(x.Intn(233), x.Intn(1000))
	switch l, e := r.p.New(payload); {
	case e == api.OK && l == m.least():
		m.now[l] = full(payload)
	case e == api.ErrFull && l == 0:
	default:
		r.Errorf("New = %d, error %d, not %d", l, int(e), m.least())
	}
}

func (m *plain) drops(r *rig, l int) {
	r.Helper()
	_, is := m.now[l]
	switch {
	case m.holds[l] > 0:
		r.drops(l, api.ErrPinned)
	case !is:
		r.drops(l, api.ErrRange)
	default:
		r.drops(l, api.OK)
		delete(m.now, l)
	}
}

// commits commits, with nothing held, and looks at what is opened anew.
func (m *plain) commits(r *rig) {
	r.Helper()
	for l := range m.holds {
		for m.holds[l] > 0 {
			m.lets(r, l)
		}
	}
	switch e := r.p.Commit(); e {
	case api.OK:
		m.committed = m.clone()
	case api.ErrFull:
	default:
		r.Errorf("Commit = %d", int(e))
	}
	m.anew(r)
}

// anew holds that what is opened anew is what was committed.
func (m *plain) anew(r *rig) {
	r.Helper()
	s := open(r.T, r.d)
	if got := s.Pages(); !slices.Equal(got, slices.Sorted(maps.Keys(m.committed))) {
		r.Errorf("opened anew: %v", got)
	}
	for l, want := range m.committed {
		if got, e := s.Read(l); got != want || e != api.OK {
			r.Errorf("opened anew: page %d says %q, error %d, not %q", l, got, int(e), want)
		}
	}
}

// aborts aborts, and looks at each page.
func (m *plain) aborts(r *rig) {
	r.Helper()
	r.aborts()
	m.now, m.holds = maps.Clone(m.committed), map[int]int{}
	r.has()
	for _, l := range m.pages() {
		r.gets(l, strings.TrimRight(m.now[l], "\x00"))
	}
}

// step does one act, and holds what it answers.
func (m *plain) step(r *rig, x *rand.Rand) {
	r.Helper()
	l := x.Intn(m.least() + 1)
	switch x.Intn(20) {
	case 0, 1, 2, 3, 4:
		m.reads(r, x, l)
	case 5, 6, 7, 8, 9:
		m.writes(r, x, l)
	case 10, 11, 12:
		m.lets(r, l)
	case 13:
		m.makes(r, x)
	case 14:
		if x.Intn(2) == 0 {
			m.drops(r, l)
		}
	case 15, 16, 17:
		n, _, _ := r.p.Count()
		r.p.Evict(x.Intn(n))
	case 18:
		if x.Intn(3) == 0 {
			m.commits(r)
		}
	case 19:
		if x.Intn(5) == 0 {
			m.aborts(r)
		}
	}
}

// few holds that no more pages are in memory than there are frames, each there once, and what is held among them.
func (m *plain) few(r *rig, frames int) {
	r.Helper()
	pages := r.p.Pages()
	n, many, held := r.p.Count()
	if n != frames || many != len(pages) || many > frames || len(slices.Compact(slices.Clone(pages))) != many {
		r.Errorf("%d frames, %d pages: %v", n, many, pages)
	}
	want := 0
	for l, often := range m.holds {
		if often == 0 {
			continue
		}
		want++
		if !slices.Contains(pages, l) {
			r.Errorf("page %d was held, and has gone", l)
		}
	}
	if held != want {
		r.Errorf("%d pages are held, not %d", held, want)
	}
}

// TestAsPlainPages: many acts, one behind the other, against a plain map of pages, with room enough and with little.
func TestAsPlainPages(t *testing.T) {
	for seed := range int64(120) {
		x := rand.New(rand.NewSource(9000 + seed))
		frames, logical := 1+x.Intn(6), 1+x.Intn(8)
		r := begun(t, logical+[]int{60, 5, 9}[seed%3], logical, frames)
		m := &plain{now: map[int]string{}, holds: map[int]int{}}
		for l := range logical {
			m.now[l] = full(name(l))
		}
		m.committed = m.clone()
		for i := range 400 {
			m.step(r, x)
			m.few(r, frames)
			if t.Failed() {
				t.Fatal("seed", seed, "act", i)
			}
		}
		m.commits(r)
		m.aborts(r)
		m.anew(r)
	}
}

// TestWhateverIsEvicted: the same reads and writes answer the same, whatever is evicted between, and however many frames there are.
func TestWhateverIsEvicted(t *testing.T) {
	var want []string
	for frames := 1; frames <= 32; frames++ {
		for _, evict := range []int{0, 1, 3} {
			r := begun(t, 80, 34, frames)
			x := rand.New(rand.NewSource(77))
			var got []string
			for i := range 300 {
				l := x.Intn(34)
				if x.Intn(2) == 0 {
					r.puts(l, text(i%233, i), api.OK)
				} else {
					s, e := r.p.Get(l)
					if e != api.OK {
						t.Fatal(int(e))
					}
					got = append(got, s)
				}
				for j := range evict {
					r.evicts((i*5+j)%frames, api.OK)
				}
				if i%100 == 99 {
					r.commits(api.OK)
				}
			}
			if want == nil {
				want = got
			}
			if !slices.Equal(got, want) {
				t.Fatal(frames, evict, "reads something else")
			}
		}
	}
}
