package pool_test

import (
	"math"
	"slices"
	"strconv"
	"strings"
	"testing"

	"horologe/api"
	"horologe/disk"
	"horologe/page"
	"horologe/pool"
	"horologe/root"
	"horologe/shadow"
)

// badPages are numbers that no logical page has, whatever there is.
var badPages = []int{-1, -2, 512, 513, 1023, 1 << 32, math.MaxInt, math.MinInt}

// badFrames are numbers that no frame has, whatever pool there is.
var badFrames = []int{-1, -2, 32, 33, 1 << 32, math.MaxInt, math.MinInt}

// full is a payload with bytes 0 behind it.
func full(s string) string { return s + strings.Repeat("\x00", 232-len(s)) }

// text are so many bytes, of which no two that stand beside each other are alike, none of them 0.
func text(n, from int) string {
	b := make([]byte, n)
	for i := range b {
		b[i] = byte(1 + (from+i)%255)
	}
	return string(b)
}

// name is what a logical page says at first.
func name(l int) string { return "page " + strconv.Itoa(l) }

// upTo are the numbers from 0 to below n.
func upTo(n int) []int {
	l := []int{}
	for i := range n {
		l = append(l, i)
	}
	return l
}

// rig is a disk, a store on it, and a pool over that.
type rig struct {
	*testing.T
	d *disk.Disk
	s *shadow.Store
	p *pool.Pool
}

func newDisk(t *testing.T, physical int) *disk.Disk {
	t.Helper()
	d, e := disk.New(2 + 4*physical)
	if e != api.OK {
		t.Fatal("disk.New", physical, int(e))
	}
	return d
}

func format(t *testing.T, d *disk.Disk) *shadow.Store {
	t.Helper()
	s, e := shadow.Format(d)
	if e != api.OK {
		t.Fatal("Format", int(e))
	}
	return s
}

func open(t *testing.T, d *disk.Disk) *shadow.Store {
	t.Helper()
	s, e := shadow.Open(d)
	if e != api.OK {
		t.Fatal("Open", int(e))
	}
	return s
}

func newPool(t *testing.T, s *shadow.Store, frames int) *pool.Pool {
	t.Helper()
	p, e := pool.New(s, frames)
	if p == nil || e != api.OK {
		t.Fatal("New", frames, int(e))
	}
	return p
}

// begun is a disk of so many physical pages, with so many logical ones, which are committed and say their names, and a pool of so many frames.
func begun(t *testing.T, physical, logical, frames int) *rig {
	t.Helper()
	d := newDisk(t, physical)
	s := format(t, d)
	for l := range logical {
		if got, e := s.New(name(l)); got != l || e != api.OK {
			t.Fatal("New", got, int(e))
		}
	}
	if e := s.Commit(); e != api.OK {
		t.Fatal("Commit", int(e))
	}
	return &rig{T: t, d: d, s: s, p: newPool(t, s, frames)}
}

// filled is a rig whose disk has no free physical page, so that nothing that is dirty can be written.
func filled(t *testing.T, logical, frames int) *rig {
	t.Helper()
	return begun(t, logical+root.Need(logical), logical, frames)
}

func (r *rig) holds(l int, want string) {
	r.Helper()
	if got, e := r.p.Hold(l); got != full(want) || e != api.OK {
		r.Errorf("Hold(%d) = %q, error %d, not %q", l, got, int(e), want)
	}
}

func (r *rig) holdsNot(l int, want api.Errno) {
	r.Helper()
	if got, e := r.p.Hold(l); got != "" || e != want {
		r.Errorf("Hold(%d) = %q, error %d, not %d", l, got, int(e), int(want))
	}
}

func (r *rig) lets(l int, want api.Errno) {
	r.Helper()
	if e := r.p.Let(l); e != want {
		r.Errorf("Let(%d) = %d, not %d", l, int(e), int(want))
	}
}

func (r *rig) sets(l int, payload string, want api.Errno) {
	r.Helper()
	if e := r.p.Set(l, payload); e != want {
		r.Errorf("Set(%d, %d bytes) = %d, not %d", l, len(payload), int(e), int(want))
	}
}

func (r *rig) gets(l int, want string) {
	r.Helper()
	if got, e := r.p.Get(l); got != full(want) || e != api.OK {
		r.Errorf("Get(%d) = %q, error %d, not %q", l, got, int(e), want)
	}
}

func (r *rig) getsNot(l int, want api.Errno) {
	r.Helper()
	if got, e := r.p.Get(l); got != "" || e != want {
		r.Errorf("Get(%d) = %q, error %d, not %d", l, got, int(e), int(want))
	}
}

func (r *rig) puts(l int, payload string, want api.Errno) {
	r.Helper()
	if e := r.p.Put(l, payload); e != want {
		r.Errorf("Put(%d, %d bytes) = %d, not %d", l, len(payload), int(e), int(want))
	}
}

func (r *rig) makes(payload string, want int) {
	r.Helper()
	if l, e := r.p.New(payload); l != want || e != api.OK {
		r.Errorf("New = %d, error %d, not %d", l, int(e), want)
	}
}

func (r *rig) makesNone(payload string, want api.Errno) {
	r.Helper()
	if l, e := r.p.New(payload); l != 0 || e != want {
		r.Errorf("New = %d, error %d, not %d", l, int(e), int(want))
	}
}

func (r *rig) drops(l int, want api.Errno) {
	r.Helper()
	if e := r.p.Drop(l); e != want {
		r.Errorf("Drop(%d) = %d, not %d", l, int(e), int(want))
	}
}

func (r *rig) evicts(i int, want api.Errno) {
	r.Helper()
	if e := r.p.Evict(i); e != want {
		r.Errorf("Evict(%d) = %d, not %d", i, int(e), int(want))
	}
}

func (r *rig) commits(want api.Errno) {
	r.Helper()
	if e := r.p.Commit(); e != want {
		r.Errorf("Commit = %d, not %d", int(e), int(want))
	}
}

func (r *rig) aborts() {
	r.Helper()
	if !r.p.Abort() {
		r.Error("Abort = false")
	}
}

func (r *rig) arms(n int) {
	r.Helper()
	if e := r.d.Arm(n); e != api.OK {
		r.Fatal("Arm", n, int(e))
	}
}

// goesDown lets the disk go down, without anything being written.
func (r *rig) goesDown() {
	r.Helper()
	r.arms(1)
	r.d.Sync()
}

// comesUp lets the disk crash and keep all that was written.
func (r *rig) comesUp() {
	r.Helper()
	if e := r.d.Crash(api.Crash{Keep: slices.Repeat([]bool{true}, 4096), Torn: -1}); e != api.OK {
		r.Fatal("Crash", int(e))
	}
}

// has holds which pages the frames have.
func (r *rig) has(pages ...int) {
	r.Helper()
	if got := r.p.Pages(); !slices.Equal(got, pages) {
		r.Errorf("Pages = %v, not %v", got, pages)
	}
	if _, got, _ := r.p.Count(); got != len(pages) {
		r.Errorf("Count: %d frames have a page, not %d", got, len(pages))
	}
}

func (r *rig) counts(frames, full, held int) {
	r.Helper()
	if a, b, c := r.p.Count(); a != frames || b != full || c != held {
		r.Errorf("Count = %d, %d, %d, not %d, %d, %d", a, b, c, frames, full, held)
	}
}

// stored holds what the store says of a page, whatever the pool does.
func (r *rig) stored(l int, want string) {
	r.Helper()
	if got, e := r.s.Read(l); got != full(want) || e != api.OK {
		r.Errorf("the store's Read(%d) = %q, error %d, not %q", l, got, int(e), want)
	}
}

// calls holds how many calls of the disk something makes.
func (r *rig) calls(want int, do func()) {
	r.Helper()
	before := r.d.Calls()
	do()
	if got := r.d.Calls() - before; got != want {
		r.Errorf("%d calls of the disk, not %d", got, want)
	}
}

// gone holds which page each frame has (-1: none), by evicting them all.
func (r *rig) gone(pages ...int) {
	r.Helper()
	for i, want := range pages {
		before := r.p.Pages()
		r.evicts(i, api.OK)
		got := -1
		for _, l := range before {
			if !slices.Contains(r.p.Pages(), l) {
				got = l
			}
		}
		if got != want {
			r.Errorf("frame %d had %d, not %d", i, got, want)
		}
	}
	r.has()
}

// reopened holds what there is on the disk for whoever opens it anew, page by page from 0 on.
func (r *rig) reopened(want ...string) {
	r.Helper()
	s := open(r.T, r.d)
	if got := s.Pages(); !slices.Equal(got, upTo(len(want))) {
		r.Errorf("opened anew: Pages = %v, not %d", got, len(want))
		return
	}
	for l, x := range want {
		if got, e := s.Read(l); got != full(x) || e != api.OK {
			r.Errorf("opened anew: Read(%d) = %q, error %d, not %q", l, got, int(e), x)
		}
	}
}

// The chapter's example.
func TestExample(t *testing.T) {
	r := begun(t, 8, 3, 2)
	r.holds(0, name(0))
	r.holds(1, name(1))
	r.holdsNot(2, api.ErrPool)
	r.has(0, 1)
	r.lets(0, api.OK)
	r.holds(2, name(2))
	r.has(1, 2)
	r.evicts(0, api.ErrPinned)
	r.lets(2, api.OK)
	r.lets(1, api.OK)
	r.gone(2, 1)
}

// P15.1

func TestNew(t *testing.T) {
	for _, frames := range []int{1, 2, 3, 16, 31, 32} {
		r := begun(t, 40, 34, frames)
		r.counts(frames, 0, 0)
		r.has()
		if r.p.Store() != r.s {
			t.Error("another store")
		}
		for i := range frames {
			r.evicts(i, api.OK)
		}
		r.evicts(frames, api.ErrRange)
		for l := range frames {
			r.counts(frames, l, l)
			r.holds(l, name(l))
		}
		r.holdsNot(frames, api.ErrPool)
		r.counts(frames, frames, frames)
		r.has(upTo(frames)...)
		r.evicts(frames-1, api.ErrPinned)
		r.evicts(frames, api.ErrRange)
	}
}

func TestNewWrong(t *testing.T) {
	d := newDisk(t, 3)
	s := format(t, d)
	calls := d.Calls()
	for _, frames := range []int{0, -1, 33, 34, 1 << 32, 1<<32 + 1, math.MaxInt, math.MinInt} {
		if p, e := pool.New(s, frames); p != nil || e != api.ErrArg {
			t.Error(frames, p != nil, int(e))
		}
	}
	for _, frames := range []int{1, 32, 0, -1, 33, math.MinInt} {
		if p, e := pool.New(nil, frames); p != nil || e != api.ErrNil {
			t.Error(frames, p != nil, int(e))
		}
	}
	if d.Calls() != calls {
		t.Error("written to")
	}
}

// TestNewTouchesNothing: of a store that is not as it was committed, too, and of one whose disk is down.
func TestNewTouchesNothing(t *testing.T) {
	r := begun(t, 8, 2, 1)
	r.s.Write(0, "w")
	r.s.Drop(1)
	r.calls(0, func() { r.p = newPool(t, r.s, 2) })
	r.gets(0, "w")
	r.getsNot(1, api.ErrRange)
	r.goesDown()
	r.p = newPool(t, r.s, 3)
	r.counts(3, 0, 0)
	r.getsNot(0, api.ErrDown)
}

// P15.2

func TestHold(t *testing.T) {
	r := begun(t, 8, 4, 3)
	r.holds(2, name(2))
	r.counts(3, 1, 1)
	r.has(2)
	r.holds(0, name(0))
	r.counts(3, 2, 2)
	r.has(0, 2)
	r.holds(2, name(2))
	r.counts(3, 2, 2)
	r.lets(2, api.OK)
	r.counts(3, 2, 2)
	r.lets(2, api.OK)
	r.counts(3, 2, 1)
	r.lets(2, api.ErrPinned)
	r.counts(3, 2, 1)
	r.has(0, 2)
	r.lets(0, api.OK)
	r.lets(0, api.ErrPinned)
	r.counts(3, 2, 0)
	r.holds(2, name(2))
	r.counts(3, 2, 1)
	r.lets(2, api.OK)
	r.gone(2, 0, -1)
}

// TestHoldMany: held often, it is to be let as often.
func TestHoldMany(t *testing.T) {
	r := begun(t, 6, 2, 1)
	for range 1000 {
		r.holds(0, name(0))
	}
	r.counts(1, 1, 1)
	for range 1000 {
		r.evicts(0, api.ErrPinned)
		r.holdsNot(1, api.ErrPool)
		r.lets(0, api.OK)
	}
	r.lets(0, api.ErrPinned)
	r.holds(1, name(1))
	r.has(1)
}

func TestSet(t *testing.T) {
	r := begun(t, 8, 3, 2)
	r.holds(1, name(1))
	r.calls(0, func() { r.sets(1, "new", api.OK) })
	r.gets(1, "new")
	r.holds(1, "new")
	r.lets(1, api.OK)
	r.stored(1, name(1))
	r.sets(1, "newer", api.OK)
	r.lets(1, api.OK)
	r.gets(1, "newer")
	r.sets(1, "newest", api.ErrPinned)
	r.gets(1, "newer")
	r.calls(4, func() { r.evicts(0, api.OK) })
	r.stored(1, "newer")
	r.gets(1, "newer")
	r.gets(0, name(0))
	r.gets(2, name(2))
}

func TestPayloads(t *testing.T) {
	r := begun(t, 8, 2, 1)
	r.holds(0, name(0))
	for i, n := range []int{232, 231, 1, 0, 232, 0, 5, 231, 232} {
		r.sets(0, text(n, i), api.OK)
		r.gets(0, text(n, i))
		r.puts(0, text(n, i+100), api.OK)
		r.gets(0, text(n, i+100))
	}
	r.lets(0, api.OK)
	for i, n := range []int{232, 231, 1, 0, 232, 0, 5} {
		r.puts(0, text(n, i), api.OK)
		r.evicts(0, api.OK)
		r.stored(0, text(n, i))
		r.gets(0, text(n, i))
	}
	for i := range 256 {
		payload := strings.Repeat(string([]byte{byte(i), 0, byte(255 - i)}), 77)
		r.puts(1, payload, api.OK)
		r.gets(1, payload)
		r.gets(0, text(5, 6))
		r.gets(1, payload)
	}
}

// TestReadOverLonger: a frame that had a longer payload has nothing of it, when another page comes into it.
func TestReadOverLonger(t *testing.T) {
	r := begun(t, 8, 3, 1)
	r.puts(0, text(232, 0), api.OK)
	r.gets(1, name(1))
	r.puts(2, "", api.OK)
	r.gets(2, "")
	r.gets(0, text(232, 0))
	r.gets(2, "")
}

func TestPayloadsTooBig(t *testing.T) {
	r := begun(t, 8, 4, 2)
	r.holds(0, name(0))
	r.gets(1, name(1))
	r.calls(0, func() {
		for _, n := range []int{233, 234, 256, 5000} {
			// It is named ahead of whatever is wrong with the page.
			for _, l := range append(slices.Clone(badPages), 0, 1, 2, 4, 511) {
				r.sets(l, text(n, 1), api.ErrBig)
				r.puts(l, text(n, 1), api.ErrBig)
			}
			r.makesNone(text(n, 1), api.ErrBig)
		}
	})
	r.has(0, 1)
	r.counts(2, 2, 1)
	r.gets(0, name(0))
	r.lets(0, api.OK)
	r.lets(0, api.ErrPinned)
	// Neither is dirty.
	r.calls(0, func() { r.gone(0, 1) })
	r.makesNone(text(233, 1), api.ErrBig)
	// And ahead of a disk that is down, and of there being no room.
	r.goesDown()
	r.puts(3, text(233, 1), api.ErrBig)
	r.sets(3, text(233, 1), api.ErrBig)
	r.makesNone(text(233, 1), api.ErrBig)
	r = filled(t, 3, 1)
	r.holds(0, name(0))
	r.puts(1, text(233, 1), api.ErrBig)
	r.makesNone(text(233, 1), api.ErrBig)
	r.makesNone(text(232, 1), api.ErrFull)
}

// without holds what a page answers that is not there.
func (r *rig) without(l int) {
	r.Helper()
	r.holdsNot(l, api.ErrRange)
	r.lets(l, api.ErrPinned)
	r.sets(l, "x", api.ErrPinned)
	r.getsNot(l, api.ErrRange)
	r.puts(l, "x", api.ErrRange)
	r.drops(l, api.ErrRange)
}

func TestPagesThatAreNot(t *testing.T) {
	r := begun(t, 9, 0, 2)
	// Of a pool whose frames are all empty, too.
	for _, l := range append(slices.Clone(badPages), 0, 1, 511) {
		r.without(l)
	}
	r.has()
	r = begun(t, 12, 4, 3)
	r.gets(0, name(0))
	r.puts(2, "two", api.OK)
	r.drops(2, api.OK)
	r.holds(3, name(3))
	r.drops(1, api.OK)
	r.calls(0, func() {
		for _, l := range append(slices.Clone(badPages), 1, 2, 4, 5, 511) {
			r.without(l)
			r.has(0, 3)
			r.counts(3, 2, 1)
		}
	})
	r.gets(0, name(0))
	r.gets(3, name(3))
	// It is named ahead of there being no room in the pool.
	r.holds(0, name(0))
	r.makes("one", 1)
	r.holds(1, "one")
	for _, l := range append(slices.Clone(badPages), 2, 4, 5, 511) {
		r.without(l)
		r.has(0, 1, 3)
	}
	r.makes("two", 2)
	r.holdsNot(2, api.ErrPool)
	r.getsNot(2, api.ErrPool)
	r.puts(2, "x", api.ErrPool)
	r.lets(2, api.ErrPinned)
	r.sets(2, "x", api.ErrPinned)
	r.drops(2, api.OK)
}

// TestNotHeld: Let and Set of what is there and in no frame, of what is in one and not held, and of what was held and has gone.
func TestNotHeld(t *testing.T) {
	r := begun(t, 9, 3, 2)
	// Empty frames have no page 0.
	r.lets(0, api.ErrPinned)
	r.sets(0, "x", api.ErrPinned)
	r.has()
	r.gets(0, name(0))
	r.lets(0, api.ErrPinned)
	r.sets(0, "x", api.ErrPinned)
	r.lets(1, api.ErrPinned)
	r.sets(1, "x", api.ErrPinned)
	r.counts(2, 1, 0)
	r.holds(1, name(1))
	r.lets(1, api.OK)
	r.evicts(1, api.OK)
	r.lets(1, api.ErrPinned)
	r.sets(1, "x", api.ErrPinned)
	r.counts(2, 1, 0)
	r.has(0)
	r.calls(0, func() { r.evicts(0, api.OK) })
	for l := range 3 {
		r.gets(l, name(l))
	}
}

// TestHoldsApart: what is held once more, let, or set is that page alone.
func TestHoldsApart(t *testing.T) {
	r := begun(t, 9, 3, 3)
	for l := range 3 {
		r.holds(l, name(l))
	}
	r.holds(1, name(1))
	r.lets(0, api.OK)
	r.lets(0, api.ErrPinned)
	r.sets(0, "x", api.ErrPinned)
	r.lets(2, api.OK)
	r.lets(1, api.OK)
	r.counts(3, 3, 1)
	r.sets(1, "one", api.OK)
	r.lets(1, api.OK)
	r.counts(3, 3, 0)
	r.gets(0, name(0))
	r.gets(1, "one")
	r.gets(2, name(2))
	r.calls(0, func() { r.evicts(0, api.OK) })
	r.calls(4, func() { r.evicts(1, api.OK) })
	r.calls(0, func() { r.evicts(2, api.OK) })
}

// P15.3

func TestGetPut(t *testing.T) {
	r := begun(t, 9, 3, 2)
	r.gets(0, name(0))
	r.counts(2, 1, 0)
	r.calls(0, func() { r.puts(1, "one", api.OK) })
	r.counts(2, 2, 0)
	r.has(0, 1)
	r.gets(1, "one")
	r.stored(1, name(1))
	r.lets(0, api.ErrPinned)
	r.lets(1, api.ErrPinned)
	// What is held stays so, as often.
	r.holds(1, "one")
	r.holds(1, "one")
	r.gets(1, "one")
	r.puts(1, "two", api.OK)
	r.gets(1, "two")
	r.counts(2, 2, 1)
	r.lets(1, api.OK)
	r.counts(2, 2, 1)
	r.lets(1, api.OK)
	r.counts(2, 2, 0)
	r.lets(1, api.ErrPinned)
	r.stored(1, name(1))
	r.calls(4, func() { r.evicts(1, api.OK) })
	r.stored(1, "two")
	r.gets(1, "two")
	// What is only got is not dirty.
	r.calls(0, func() { r.evicts(1, api.OK) })
	// What is put is dirty, though it says nothing new.
	r.puts(0, name(0), api.OK)
	r.calls(4, func() { r.evicts(0, api.OK) })
}

func TestAllHeld(t *testing.T) {
	r := begun(t, 9, 4, 2)
	r.holds(0, name(0))
	r.holds(1, name(1))
	r.sets(1, "one", api.OK)
	for range 3 {
		r.calls(0, func() {
			r.holdsNot(2, api.ErrPool)
			r.getsNot(3, api.ErrPool)
			r.puts(2, "x", api.ErrPool)
		})
		r.counts(2, 2, 2)
		r.has(0, 1)
	}
	// What has a frame needs no other.
	r.gets(0, name(0))
	r.puts(0, "zero", api.OK)
	r.gets(1, "one")
	r.lets(1, api.OK)
	r.calls(4, func() { r.puts(2, "two", api.OK) })
	r.has(0, 2)
	r.gets(2, "two")
	r.stored(2, name(2))
	r.stored(1, "one")
}

// P15.4

func TestMake(t *testing.T) {
	r := begun(t, 12, 2, 1)
	r.holds(0, name(0))
	// It needs no frame, and takes none.
	r.calls(4, func() { r.makes("two", 2) })
	r.has(0)
	r.counts(1, 1, 1)
	r.stored(2, "two")
	r.holdsNot(2, api.ErrPool)
	r.lets(0, api.OK)
	r.has(0)
	r.makes(text(232, 0), 3)
	r.makes("", 4)
	r.gets(2, "two")
	r.gets(3, text(232, 0))
	r.gets(4, "")
	r.calls(0, func() { r.evicts(0, api.OK) })
	r.makes("five", 5)
	r.has()
	r.goesDown()
	r.getsNot(5, api.ErrDown)
	r.makesNone("x", api.ErrDown)
}

// TestMakeAgain: what a frame had of a page that was dropped is not what the page says that is made in its place.
func TestMakeAgain(t *testing.T) {
	r := begun(t, 12, 3, 2)
	r.puts(1, "old", api.OK)
	r.drops(1, api.OK)
	r.makes("new", 1)
	r.has()
	r.gets(1, "new")
	r.puts(1, "newer", api.OK)
	r.evicts(0, api.OK)
	r.drops(1, api.OK)
	r.makes("newest", 1)
	r.gets(1, "newest")
	r.commits(api.OK)
	r.reopened(name(0), "newest", name(2))
}

func TestMakeWithoutRoom(t *testing.T) {
	r := filled(t, 2, 2)
	r.puts(0, "zero", api.OK)
	r.calls(0, func() { r.makesNone("x", api.ErrFull) })
	r.has(0)
	r.gets(0, "zero")
	r.drops(0, api.OK)
	// What was committed makes no room till it is committed that it is left.
	r.makesNone("x", api.ErrFull)
}

func TestDrop(t *testing.T) {
	r := begun(t, 12, 5, 3)
	r.gets(0, name(0))
	r.puts(1, "one", api.OK)
	r.holds(2, name(2))
	// Held.
	r.drops(2, api.ErrPinned)
	r.has(0, 1, 2)
	r.counts(3, 3, 1)
	r.gets(2, name(2))
	r.calls(0, func() {
		// Dirty in a frame, clean in one, in none.
		r.drops(1, api.OK)
		r.has(0, 2)
		r.drops(0, api.OK)
		r.has(2)
		r.drops(4, api.OK)
		r.has(2)
	})
	r.counts(3, 1, 1)
	if got := r.s.Pages(); !slices.Equal(got, []int{2, 3}) {
		t.Error(got)
	}
	r.drops(1, api.ErrRange)
	r.lets(2, api.OK)
	r.gone(-1, -1, 2)
	r.drops(2, api.OK)
	r.drops(3, api.OK)
	r.commits(api.OK)
	r.reopened()
}

// TestDropHeldTwice: it is held till it is let as often as it was held.
func TestDropHeldTwice(t *testing.T) {
	r := begun(t, 6, 2, 2)
	r.holds(0, name(0))
	r.holds(0, name(0))
	for range 2 {
		r.drops(0, api.ErrPinned)
		r.evicts(0, api.ErrPinned)
		r.commits(api.ErrPinned)
		r.lets(0, api.OK)
	}
	r.drops(0, api.OK)
	r.has()
}

func TestEvict(t *testing.T) {
	r := begun(t, 12, 4, 3)
	bad := append(slices.Clone(badFrames), 3, 4)
	for _, i := range bad {
		r.evicts(i, api.ErrRange)
	}
	r.calls(0, func() {
		for i := range 3 {
			r.evicts(i, api.OK)
		}
	})
	r.gets(0, name(0))
	r.puts(1, "one", api.OK)
	r.holds(2, name(2))
	for _, i := range bad {
		r.evicts(i, api.ErrRange)
	}
	r.evicts(2, api.ErrPinned)
	r.sets(2, "two", api.OK)
	r.calls(0, func() { r.evicts(2, api.ErrPinned) })
	r.has(0, 1, 2)
	r.calls(0, func() { r.evicts(0, api.OK) })
	r.has(1, 2)
	r.calls(4, func() { r.evicts(1, api.OK) })
	r.has(2)
	r.stored(1, "one")
	r.stored(2, name(2))
	r.calls(0, func() { r.evicts(1, api.OK) })
	r.lets(2, api.OK)
	r.calls(4, func() { r.evicts(2, api.OK) })
	r.has()
	r.counts(3, 0, 0)
	r.stored(2, "two")
	r.gets(1, "one")
	r.gets(2, "two")
	// What was written is not dirty when it comes back.
	r.calls(0, func() { r.gone(1, 2, -1) })
}

// P15.5

func TestCommit(t *testing.T) {
	r := begun(t, 16, 4, 3)
	r.puts(0, "zero", api.OK)
	r.gets(1, name(1))
	r.puts(2, "two", api.OK)
	r.reopened(name(0), name(1), name(2), name(3))
	// Two dirty frames, a part of the table, and the root between two Syncs.
	r.calls(2*4+4+3, func() { r.commits(api.OK) })
	r.has(0, 1, 2)
	r.counts(3, 3, 0)
	r.reopened("zero", name(1), "two", name(3))
	// None is dirty any more.
	r.calls(4+3, func() { r.commits(api.OK) })
	r.calls(0, func() { r.gone(0, 1, 2) })
	// What was evicted is committed as well, and what was made and dropped.
	r.puts(1, "one", api.OK)
	r.gone(1, -1, -1)
	r.makes("four", 4)
	r.drops(3, api.OK)
	r.makes("three", 3)
	r.calls(4+3, func() { r.commits(api.OK) })
	r.reopened("zero", "one", "two", "three", "four")
	if r.s.Epoch() != 5 {
		t.Error(r.s.Epoch())
	}
}

func TestCommitOfNothing(t *testing.T) {
	r := begun(t, 3, 0, 2)
	r.calls(3, func() { r.commits(api.OK) })
	r.reopened()
	if r.s.Epoch() != 3 {
		t.Error(r.s.Epoch())
	}
}

func TestCommitHeld(t *testing.T) {
	r := begun(t, 12, 3, 3)
	r.puts(0, "zero", api.OK)
	r.holds(2, name(2))
	r.calls(0, func() { r.commits(api.ErrPinned) })
	r.counts(3, 2, 1)
	r.stored(0, name(0))
	if r.s.Epoch() != 2 {
		t.Error(r.s.Epoch())
	}
	// It is named ahead of what can't be written, and of a disk that is down.
	r.goesDown()
	r.commits(api.ErrPinned)
	r.lets(2, api.OK)
	r.commits(api.ErrDown)
	r = filled(t, 2, 2)
	r.puts(0, "zero", api.OK)
	r.holds(1, name(1))
	r.commits(api.ErrPinned)
	r.lets(1, api.OK)
	r.commits(api.ErrFull)
}

// lies holds which logical page's payload a physical page has.
func (r *rig) lies(id int, want string) {
	r.Helper()
	if got, e := page.Read(r.d, id); got.Payload != full(want) || got.Kind != api.KData || e != api.OK {
		r.Errorf("physical page %d: %q, kind %d, error %d; not %q", id, got.Payload, got.Kind, int(e), want)
	}
}

// TestCommitByFrames: frames are written in their order, not in that of their pages, nor in that in which they became dirty.
func TestCommitByFrames(t *testing.T) {
	r := begun(t, 12, 3, 3)
	r.gets(2, name(2))
	r.gets(0, name(0))
	r.gets(1, name(1))
	r.puts(1, "one", api.OK)
	r.puts(2, "two", api.OK)
	r.puts(0, "zero", api.OK)
	r.commits(api.OK)
	r.lies(4, "two")
	r.lies(5, "zero")
	r.lies(6, "one")
	r.gone(2, 0, 1)
}

func TestAbort(t *testing.T) {
	r := begun(t, 20, 5, 3)
	r.puts(0, "zero", api.OK)
	r.evicts(0, api.OK)
	r.puts(1, "one", api.OK)
	r.holds(2, name(2))
	r.holds(2, name(2))
	r.sets(2, "two", api.OK)
	r.gets(3, name(3))
	r.drops(3, api.OK)
	r.drops(4, api.OK)
	r.makes("three", 3)
	r.makes("four", 4)
	r.makes("five", 5)
	r.puts(3, "drei", api.OK)
	r.calls(0, r.aborts)
	r.has()
	r.counts(3, 0, 0)
	r.lets(2, api.ErrPinned)
	r.sets(2, "x", api.ErrPinned)
	r.without(5)
	for l := range 5 {
		r.stored(l, name(l))
		r.gets(l, name(l))
	}
	if free, used, fresh, leaving := r.s.Count(); free != 14 || used != 6 || fresh != 0 || leaving != 0 {
		t.Error(free, used, fresh, leaving)
	}
	// Nothing of it comes back with a commit.
	r.calls(4+3, func() { r.commits(api.OK) })
	r.reopened(name(0), name(1), name(2), name(3), name(4))
	for range 2 {
		r.aborts()
		r.has()
		r.gets(1, name(1))
	}
	r.puts(1, "eins", api.OK)
	r.commits(api.OK)
	r.aborts()
	r.has()
	r.gets(1, "eins")
}

// P15.6

func TestLooks(t *testing.T) {
	r := begun(t, 40, 34, 32)
	for i := range 32 {
		r.gets(33-i, name(33-i))
		want := upTo(34)[33-i:]
		r.has(want...)
		r.counts(32, i+1, 0)
	}
	for i := range 32 {
		r.holds(i+2, name(i+2))
		r.holds(i+2, name(i+2))
		r.counts(32, 32, i+1)
	}
	// What is answered is no memory of the pool's.
	l := r.p.Pages()
	for i := range l {
		l[i] = 0
	}
	_ = append(l[:3], 7)
	r.has(upTo(34)[2:]...)
	l = r.p.Pages()
	r.aborts()
	r.gets(5, name(5))
	if !slices.Equal(l, upTo(34)[2:]) {
		t.Error(l)
	}
	if r.p.Store() != r.s {
		t.Error("another store")
	}
}

// TestAnswersStay: a payload that was answered stays as it was, whatever becomes of its page.
func TestAnswersStay(t *testing.T) {
	r := begun(t, 12, 2, 1)
	held, _ := r.p.Hold(0)
	got, _ := r.p.Get(0)
	r.sets(0, text(232, 1), api.OK)
	set, _ := r.p.Get(0)
	r.lets(0, api.OK)
	r.puts(1, text(232, 2), api.OK)
	r.aborts()
	if held != full(name(0)) || got != full(name(0)) || set != text(232, 1) {
		t.Errorf("%q, %q, %q", held, got, set)
	}
}

func TestNil(t *testing.T) {
	r := &rig{T: t}
	for _, l := range append(slices.Clone(badPages), 0, 1, 511) {
		r.holdsNot(l, api.ErrNil)
		r.lets(l, api.ErrNil)
		r.sets(l, "x", api.ErrNil)
		r.sets(l, text(233, 0), api.ErrNil)
		r.getsNot(l, api.ErrNil)
		r.puts(l, "x", api.ErrNil)
		r.puts(l, text(233, 0), api.ErrNil)
		r.drops(l, api.ErrNil)
		r.evicts(l, api.ErrNil)
	}
	r.makesNone("x", api.ErrNil)
	r.makesNone(text(233, 0), api.ErrNil)
	r.commits(api.ErrNil)
	if r.p.Abort() {
		t.Error("Abort of nil")
	}
	r.has()
	r.counts(0, 0, 0)
	if r.p.Store() != nil {
		t.Error("a store")
	}
}

// P15.8

// TestNoMore: what no frame has is read from the disk, and what one has is not.
func TestNoMore(t *testing.T) {
	r := begun(t, 12, 4, 2)
	for l := range 4 {
		r.gets(l, name(l))
	}
	r.has(2, 3)
	for id := range 4 {
		r.d.Write(2+4*id, "torn")
	}
	r.getsNot(0, api.ErrCorrupt)
	r.holdsNot(1, api.ErrCorrupt)
	r.puts(0, "x", api.ErrCorrupt)
	r.has(2, 3)
	r.counts(2, 2, 0)
	r.gets(2, name(2))
	r.gets(3, name(3))
	r.goesDown()
	r.getsNot(0, api.ErrDown)
	r.gets(2, name(2))
	r.puts(3, "three", api.OK)
	r.gets(3, "three")
	r.evicts(0, api.OK)
	r.getsNot(2, api.ErrDown)
	r.has(3)
}

// TestHeldNeverGoes: whatever comes and goes beside it.
func TestHeldNeverGoes(t *testing.T) {
	for frames := 2; frames <= 5; frames++ {
		for held := range frames {
			r := begun(t, 40, 12, frames)
			for l := range frames {
				r.gets(l, name(l))
			}
			r.holds(held, name(held))
			r.sets(held, "held", api.OK)
			for i := range 60 {
				l := frames + i%(12-frames)
				r.puts(l, text(i, i), api.OK)
				r.gets(l, text(i, i))
				r.counts(frames, frames, 1)
				if !slices.Contains(r.p.Pages(), held) {
					t.Fatal(frames, held, "has gone")
				}
			}
			r.stored(held, name(held))
			r.gets(held, "held")
			r.lets(held, api.OK)
			r.commits(api.OK)
		}
	}
}

func TestManyPages(t *testing.T) {
	r := begun(t, 1023, 512, 32)
	r.makesNone("x", api.ErrFull)
	for l := range 512 {
		r.gets(l, name(l))
	}
	r.has(upTo(512)[480:]...)
	for l := 511; l >= 300; l-- {
		r.puts(l, "new "+name(l), api.OK)
	}
	r.has(upTo(332)[300:]...)
	r.holds(511, "new "+name(511))
	r.without(512)
	r.lets(511, api.OK)
	r.drops(511, api.OK)
	r.without(511)
	r.makes("last", 511)
	r.gets(511, "last")
	r.puts(511, "the last", api.OK)
	for l := range 511 {
		if l < 300 {
			r.gets(l, name(l))
		} else {
			r.gets(l, "new "+name(l))
		}
	}
	r.commits(api.OK)
	r.gets(511, "the last")
}
