package chain_test

import (
	"maps"
	"math"
	"math/big"
	"slices"
	"strings"
	"testing"

	"horologe/api"
	"horologe/chain"
	"horologe/disk"
	"horologe/pool"
	"horologe/shadow"
)

// sizes are how long values are, at each edge: how many pages each needs.
var sizes = map[int]int{
	0: 1, 1: 1, 2: 1, 227: 1, 228: 1,
	229: 2, 255: 2, 256: 2, 257: 2, 300: 2, 455: 2, 456: 2,
	457: 3, 683: 3, 684: 3,
	685: 4, 911: 4, 912: 4,
	913: 5, 1000: 5, 1023: 5, 1024: 5,
}

// lengths are they, rising.
func lengths() []int { return slices.Sorted(maps.Keys(sizes)) }

// badPages are numbers that no logical page has, whatever there is.
var badPages = []int{-1, -2, 512, 513, 1023, 65534, 65535, 65536, 1 << 32, math.MaxInt, math.MinInt}

// text are so many bytes, of which no two that stand beside each other are alike.
func text(n, from int) string {
	b := make([]byte, n)
	for i := range b {
		b[i] = byte((from + i) % 251)
	}
	return string(b)
}

// full is a payload with bytes 0 behind it.
func full(s string) string { return s + strings.Repeat("\x00", 232-len(s)) }

// says is a payload that says: on at next (-1: nowhere), so many bytes; and what stands behind.
func says(next, many int, bytes string) string {
	n := next + 1
	return string([]byte{byte(n / 256), byte(n % 256), byte(many / 256), byte(many % 256)}) + bytes
}

// upTo are the numbers from 0 to below n.
func upTo(n int) []int {
	l := []int{}
	for i := range n {
		l = append(l, i)
	}
	return l
}

// down are the n numbers that end with last, falling.
func down(n, last int) []int {
	l := []int{}
	for i := range n {
		l = append(l, last+n-1-i)
	}
	return l
}

// rig is a disk, a store on it, and a pool over that.
type rig struct {
	*testing.T
	d *disk.Disk
	s *shadow.Store
	p *pool.Pool
}

// begun is a disk of so many physical pages, with a store without pages, and a pool of so many frames.
func begun(t *testing.T, physical, frames int) *rig {
	t.Helper()
	d, e := disk.New(2 + 4*physical)
	if e != api.OK {
		t.Fatal("disk.New", physical, int(e))
	}
	s, e := shadow.Format(d)
	if e != api.OK {
		t.Fatal("Format", int(e))
	}
	r := &rig{T: t, d: d, s: s}
	r.over(frames)
	return r
}

// over lays a pool of so many frames over the rig's store, with nothing in memory.
func (r *rig) over(frames int) {
	r.Helper()
	p, e := pool.New(r.s, frames)
	if e != api.OK {
		r.Fatal("pool.New", frames, int(e))
	}
	r.p = p
}

// anew opens what is on the disk, with a pool of so many frames.
func (r *rig) anew(frames int) {
	r.Helper()
	s, e := shadow.Open(r.d)
	if e != api.OK {
		r.Fatal("Open", int(e))
	}
	r.s = s
	r.over(frames)
}

// page makes a logical page, whatever it says.
func (r *rig) page(payload string) int {
	r.Helper()
	l, e := r.p.New(payload)
	if e != api.OK {
		r.Fatal("pool.New", int(e))
	}
	return l
}

// pages makes one logical page behind the other.
func (r *rig) pages(payloads ...string) {
	r.Helper()
	for _, x := range payloads {
		r.page(x)
	}
}

func (r *rig) puts(value string, want int) {
	r.Helper()
	if l, e := chain.Put(r.p, value); l != want || e != api.OK {
		r.Fatalf("Put of %d bytes = %d, error %d, not %d", len(value), l, int(e), want)
	}
}

// put makes a chain, whichever page is its first one.
func (r *rig) put(value string) int {
	r.Helper()
	l, e := chain.Put(r.p, value)
	if e != api.OK {
		r.Fatalf("Put of %d bytes: error %d", len(value), int(e))
	}
	return l
}

func (r *rig) putsNot(value string, want api.Errno) {
	r.Helper()
	if l, e := chain.Put(r.p, value); l != 0 || e != want {
		r.Errorf("Put of %d bytes = %d, error %d, not %d", len(value), l, int(e), int(want))
	}
}

func (r *rig) gets(first int, want string) {
	r.Helper()
	if got, e := chain.Get(r.p, first); got != want || e != api.OK {
		r.Errorf("Get(%d) = %q, error %d, not %q", first, got, int(e), want)
	}
}

// goes holds which pages a chain has.
func (r *rig) goes(first int, want ...int) {
	r.Helper()
	if got, e := chain.Pages(r.p, first); !slices.Equal(got, want) || e != api.OK {
		r.Errorf("Pages(%d) = %v, error %d, not %v", first, got, int(e), want)
	}
}

func (r *rig) drops(first int, want api.Errno) {
	r.Helper()
	if e := chain.Drop(r.p, first); e != want {
		r.Errorf("Drop(%d) = %d, not %d", first, int(e), int(want))
	}
}

// refused holds that what reads a chain answers an error, and nothing else.
func (r *rig) refused(first int, want api.Errno) {
	r.Helper()
	if got, e := chain.Get(r.p, first); got != "" || e != want {
		r.Errorf("Get(%d) = %q, error %d, not %d", first, got, int(e), int(want))
	}
	if got, e := chain.Pages(r.p, first); len(got) != 0 || e != want {
		r.Errorf("Pages(%d) = %v, error %d, not %d", first, got, int(e), int(want))
	}
	before := r.s.Pages()
	r.drops(first, want)
	if got := r.s.Pages(); !slices.Equal(got, before) {
		r.Errorf("Drop(%d) leaves %v of %v", first, got, before)
	}
}

// there holds which logical pages there are.
func (r *rig) there(want ...int) {
	r.Helper()
	if got := r.s.Pages(); !slices.Equal(got, want) {
		r.Errorf("there are the pages %v, not %v", got, want)
	}
}

// stored holds what a page says, byte by byte.
func (r *rig) stored(l int, want string) {
	r.Helper()
	if got, e := r.s.Read(l); got != full(want) || e != api.OK {
		r.Errorf("page %d says %q, error %d, not %q", l, got, int(e), want)
	}
}

// memory holds which pages are in memory, and how many of them are held.
func (r *rig) memory(held int, want ...int) {
	r.Helper()
	if got := r.p.Pages(); !slices.Equal(got, want) {
		r.Errorf("in memory are the pages %v, not %v", got, want)
	}
	if _, _, got := r.p.Count(); got != held {
		r.Errorf("%d pages are held, not %d", got, held)
	}
}

func (r *rig) free() int {
	n, _, _, _ := r.s.Count()
	return n
}

// does fails, if what is done with the pool or its disk, so that something can be tried, goes wrong.
func (r *rig) does(what string, e api.Errno) {
	r.Helper()
	if e != api.OK {
		r.Fatal(what, int(e))
	}
}

func (r *rig) commits() {
	r.Helper()
	r.does("Commit", r.p.Commit())
}

func (r *rig) aborts() {
	r.Helper()
	if !r.p.Abort() {
		r.Fatal("Abort = false")
	}
}

func (r *rig) holds(pages ...int) {
	r.Helper()
	for _, l := range pages {
		_, e := r.p.Hold(l)
		r.does("Hold", e)
	}
}

func (r *rig) lets(pages ...int) {
	r.Helper()
	for _, l := range pages {
		r.does("Let", r.p.Let(l))
	}
}

// look is what there is to see of a store and its pool: what each page says on the disk, and how many pages and frames there are of each kind.
type look struct {
	payloads map[int]string
	counts   [7]int
}

func (r *rig) look() look {
	r.Helper()
	x := look{payloads: map[int]string{}}
	for _, l := range r.s.Pages() {
		s, e := r.s.Read(l)
		r.does("Read", e)
		x.payloads[l] = s
	}
	free, used, fresh, leaving := r.s.Count()
	frames, filled, held := r.p.Count()
	x.counts = [...]int{free, used, fresh, leaving, frames, filled, held}
	return x
}

func (x look) same(y look) bool {
	return x.counts == y.counts && maps.Equal(x.payloads, y.payloads)
}

// unchanged holds that something changes nothing.
func (r *rig) unchanged(do func()) {
	r.Helper()
	before := r.look()
	do()
	if after := r.look(); !after.same(before) {
		r.Errorf("it was %v, and is %v", before, after)
	}
}

// The chapter's example, and what its two pages say.
func TestExample(t *testing.T) {
	r := begun(t, 8, 2)
	value := text(300, 7)
	r.puts(value, 1)
	r.goes(1, 1, 0)
	r.stored(1, "\x00\x01\x00\xe4"+value[:228])
	r.stored(0, "\x00\x00\x00\x48"+value[228:])
	r.gets(1, value)
	r.drops(1, api.OK)
	r.there()
	r.refused(1, api.ErrRange)
}

// P16.1

func TestPiece(t *testing.T) {
	if chain.Piece != 228 || chain.Piece+4 != api.Room {
		t.Error(chain.Piece)
	}
}

func TestNeed(t *testing.T) {
	for _, n := range []int{-1, -2, -227, -228, -229, -1024, math.MinInt32, math.MinInt, math.MinInt + 1, 0} {
		if got := chain.Need(n); got != 1 {
			t.Error(n, got)
		}
	}
	for n, want := range sizes {
		if got := chain.Need(n); got != want {
			t.Error(n, got, want)
		}
	}
	for n, want := range map[int]int{1025: 5, 1139: 5, 1140: 5, 1141: 6, 228000: 1000, 228001: 1001} {
		if got := chain.Need(n); got != want {
			t.Error(n, got, want)
		}
	}
}

// TestNeedGreat: against numbers of any size.
func TestNeedGreat(t *testing.T) {
	n := []int{math.MaxInt, math.MaxInt - 1, math.MaxInt - 226, math.MaxInt - 227, math.MaxInt - 228, math.MaxInt - 229, math.MaxInt32, math.MaxInt32 + 1, 1 << 40, 1 << 62}
	for i := range 5000 {
		n = append(n, i+1, math.MaxInt-i)
	}
	for _, x := range n {
		many := big.NewInt(int64(x))
		many.Add(many, big.NewInt(227)).Div(many, big.NewInt(228))
		if got := chain.Need(x); int64(got) != many.Int64() {
			t.Error(x, got, many)
		}
	}
}

func TestNilPool(t *testing.T) {
	r := &rig{T: t}
	for _, n := range []int{0, 1, 1024, 1025, 5000} {
		r.putsNot(text(n, 0), api.ErrNil)
	}
	for _, l := range append([]int{0, 1, 511}, badPages...) {
		if got, e := chain.Get(nil, l); got != "" || e != api.ErrNil {
			t.Error(l, got, int(e))
		}
		if got, e := chain.Pages(nil, l); len(got) != 0 || e != api.ErrNil {
			t.Error(l, got, int(e))
		}
		if e := chain.Drop(nil, l); e != api.ErrNil {
			t.Error(l, int(e))
		}
	}
}

func TestPutBig(t *testing.T) {
	r := begun(t, 20, 3)
	r.puts("ab", 0)
	r.gets(0, "ab")
	for _, n := range []int{1025, 1026, 1140, 1141, 1 << 16, 1 << 20} {
		r.unchanged(func() { r.putsNot(text(n, 0), api.ErrBig) })
	}
	r.unchanged(func() { r.putsNot(strings.Repeat("\x00", 1025), api.ErrBig) })
	r.puts(text(1024, 0), 5)
	r.gets(5, text(1024, 0))
}

// TestBytes: what each page of a value's chain says, and in which order they are made and told.
func TestBytes(t *testing.T) {
	for n, many := range sizes {
		r := begun(t, 12, 1)
		value := text(n, n)
		before := r.d.Calls()
		r.puts(value, many-1)
		if got := r.d.Calls() - before; got != 4*many {
			t.Error(n, "calls of the disk:", got)
		}
		r.memory(0)
		r.there(upTo(many)...)
		for i := range many {
			l, piece := many-1-i, value[228*i:]
			if i < many-1 {
				r.stored(l, says(l-1, 228, piece[:228]))
			} else {
				r.stored(l, says(-1, n-228*(many-1), piece))
			}
		}
		r.goes(many-1, down(many, 0)...)
		r.gets(many-1, value)
	}
}

// TestBytesBetween: pages are made where there are none, the last one at the least number.
func TestBytesBetween(t *testing.T) {
	r := begun(t, 40, 2)
	for l := range 9 {
		r.page(says(-1, 1, string(rune('a'+l))))
	}
	for _, l := range []int{1, 4, 7} {
		r.does("Drop", r.p.Drop(l))
	}
	value := text(1024, 3)
	r.puts(value, 10)
	r.goes(10, 10, 9, 7, 4, 1)
	r.stored(10, "\x00\x0a\x00\xe4"+value[:228])
	r.stored(9, "\x00\x08\x00\xe4"+value[228:456])
	r.stored(7, "\x00\x05\x00\xe4"+value[456:684])
	r.stored(4, "\x00\x02\x00\xe4"+value[684:912])
	r.stored(1, "\x00\x00\x00\x70"+value[912:])
	r.puts("", 11)
	r.stored(11, "\x00\x00\x00\x00")
	r.goes(11, 11)
	r.gets(11, "")
	for _, l := range []int{0, 2, 3, 5, 6, 8} {
		r.gets(l, string(rune('a'+l)))
	}
}

// TestGreatNumbers: pages with numbers up to the greatest.
func TestGreatNumbers(t *testing.T) {
	r := begun(t, 600, 4)
	for l := range 507 {
		r.page(says(-1, 0, ""))
		if l == 254 {
			// The number 255 and 1 more takes the higher byte.
			value := text(500, 1)
			r.puts(value, 257)
			r.goes(257, 257, 256, 255)
			r.stored(256, "\x01\x00\x00\xe4"+value[228:456])
			r.stored(257, "\x01\x01\x00\xe4"+value[:228])
			r.gets(257, value)
			r.drops(257, api.OK)
		}
	}
	value := text(1024, 5)
	r.puts(value, 511)
	r.goes(511, 511, 510, 509, 508, 507)
	r.stored(511, "\x01\xff\x00\xe4"+value[:228])
	r.gets(511, value)
	r.unchanged(func() { r.putsNot("", api.ErrFull) })
	r.drops(511, api.OK)
	r.there(upTo(507)...)
	r.does("Drop", r.p.Drop(0))
	r.pages(says(511, 1, "a"), "", "", "", "")
	r.puts("b", 511)
	r.stored(0, "\x02\x00\x00\x01a")
	r.goes(0, 0, 511)
	r.gets(0, "ab")
	r.refused(512, api.ErrRange)
}

// TestPutAnyBytes: whatever a value's bytes are, each at the beginning, in the midst and at the end of a piece.
func TestPutAnyBytes(t *testing.T) {
	r := begun(t, 12, 1)
	for b := range 256 {
		for _, n := range []int{1, 228, 229, 457} {
			value := strings.Repeat(string([]byte{byte(b)}), n)
			l := r.put(value)
			r.gets(l, value)
			r.drops(l, api.OK)
		}
	}
	r.there()
}

// TestNotKept: neither what is handed in nor what is answered is shared with the pool.
func TestNotKept(t *testing.T) {
	r := begun(t, 20, 5)
	value := text(600, 9)
	asked := strings.Clone(value)
	r.puts(asked, 2)
	got, _ := chain.Get(r.p, 2)
	pages, _ := chain.Pages(r.p, 2)
	for _, l := range pages {
		r.does("Put", r.p.Put(l, says(-1, 3, "new")))
	}
	if asked != value || got != value {
		t.Error("a value has changed")
	}
	r.gets(2, "new")
	more, _ := chain.Pages(r.p, 2)
	more[0] = 99
	r.goes(2, 2)
	if !slices.Equal(pages, []int{2, 1, 0}) {
		t.Error(pages)
	}
	pages = append(pages[:1], 77)
	r.goes(2, 2)
	r.goes(1, 1)
}

// P16.2

// TestFirst: pages that are no first one.
func TestFirst(t *testing.T) {
	for _, frames := range []int{1, 32} {
		r := begun(t, 20, frames)
		for _, l := range append([]int{0, 1, 511}, badPages...) {
			r.unchanged(func() { r.refused(l, api.ErrRange) })
		}
		r.puts("a", 0)
		r.puts("b", 1)
		r.puts("c", 2)
		r.drops(1, api.OK)
		r.gets(2, "c")
		for _, l := range append([]int{1, 3, 4, 510, 511}, badPages...) {
			r.unchanged(func() { r.refused(l, api.ErrRange) })
		}
		r.gets(0, "a")
	}
}

// TestFromWithin: from a page within a chain on there is a chain, too.
func TestFromWithin(t *testing.T) {
	r := begun(t, 20, 2)
	value := text(1024, 2)
	r.puts(value, 4)
	for i := range 5 {
		r.gets(4-i, value[228*i:])
		r.goes(4-i, down(5-i, 0)...)
	}
	r.drops(2, api.OK)
	r.there(3, 4)
	r.refused(4, api.ErrCorrupt)
	r.refused(3, api.ErrCorrupt)
	r.refused(2, api.ErrRange)
}

// TestMemory: a chain's pages are got from the pool, one behind the other, and held by nobody then.
func TestMemory(t *testing.T) {
	for _, x := range []struct {
		frames int
		want   []int
	}{{1, []int{0}}, {2, []int{0, 1}}, {4, []int{0, 1, 2, 3}}, {5, []int{0, 1, 2, 3, 4}}, {32, []int{0, 1, 2, 3, 4}}} {
		r := begun(t, 20, x.frames)
		value := text(1000, x.frames)
		r.puts(value, 4)
		r.memory(0)
		r.gets(4, value)
		r.memory(0, x.want...)
		r.over(x.frames)
		r.goes(4, 4, 3, 2, 1, 0)
		r.memory(0, x.want...)
		r.drops(4, api.OK)
		r.memory(0)
		r.there()
	}
}

// TestThroughPool: what was put into the pool counts, though it is not on the disk.
func TestThroughPool(t *testing.T) {
	r := begun(t, 20, 3)
	r.puts(text(300, 1), 1)
	r.does("Put", r.p.Put(0, says(-1, 2, "xy")))
	r.stored(0, says(-1, 72, text(300, 1)[228:]))
	r.gets(1, text(228, 1)+"xy")
	r.does("Put", r.p.Put(1, says(-1, 1, "z")))
	r.gets(1, "z")
	r.goes(1, 1)
	r.drops(1, api.OK)
	r.there(0)
	r.gets(0, "xy")
}
