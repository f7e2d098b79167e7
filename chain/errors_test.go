package chain_test

import (
	"slices"
	"testing"

	"horologe/api"
	"horologe/chain"
)

// goesDown lets the disk go down, without anything being written.
func (r *rig) goesDown() {
	r.Helper()
	r.does("Arm", r.d.Arm(1))
	r.d.Sync()
}

// comesUp lets the disk crash and keep all that was written.
func (r *rig) comesUp() {
	r.Helper()
	r.does("Crash", r.d.Crash(api.Crash{Keep: slices.Repeat([]bool{true}, 4096), Torn: -1}))
}

// tears lets a sector of a physical page say something else, so that it does not pass its check.
func (r *rig) tears(physical int) {
	r.Helper()
	r.does("Write", r.d.Write(2+4*physical, "torn"))
}

// takes makes pages, till so many physical ones are free.
func (r *rig) takes(free int) {
	r.Helper()
	for r.free() > free {
		r.page(says(-1, 0, ""))
	}
}

// TestPutFull: no physical page is free at each of the pages that are made.
func TestPutFull(t *testing.T) {
	for n, many := range sizes {
		for free := range many {
			r := begun(t, 14, 2)
			r.puts("first", 0)
			r.commits()
			r.puts(text(300, 2), 2)
			r.gets(2, text(300, 2))
			r.takes(free)
			r.unchanged(func() { r.putsNot(text(n, 0), api.ErrFull) })
			r.unchanged(func() { r.putsNot(text(n, 0), api.ErrFull) })
			r.unchanged(func() { r.putsNot(text(1025, 0), api.ErrBig) })
			r.gets(0, "first")
			r.gets(2, text(300, 2))
			// What there is room for.
			if free > 0 {
				r.gets(r.put(text(228*free, 3)), text(228*free, 3))
			}
			if r.free() != 0 {
				t.Error(n, free, r.free())
			}
		}
		r := begun(t, 14, 2)
		r.takes(many)
		l := r.put(text(n, 0))
		if r.free() != 0 {
			t.Error(n, r.free())
		}
		r.gets(l, text(n, 0))
	}
}

// TestPutLogicalFull: no logical page is left at each of the pages that are made.
func TestPutLogicalFull(t *testing.T) {
	for left := range 6 {
		r := begun(t, 530, 2)
		for range 512 - left {
			r.page(says(-1, 0, ""))
		}
		for n, many := range sizes {
			if many > left {
				r.unchanged(func() { r.putsNot(text(n, 0), api.ErrFull) })
				continue
			}
			before := r.free()
			l := r.put(text(n, 0))
			if l != 512-left+many-1 {
				t.Error(n, left, l)
			}
			r.gets(l, text(n, 0))
			r.drops(l, api.OK)
			if r.free() != before {
				t.Error(n, left, r.free())
			}
		}
	}
}

// TestPutFullThenAgain: the pages that were made, and dropped, are taken by the next chain.
func TestPutFullThenAgain(t *testing.T) {
	r := begun(t, 4, 1)
	r.putsNot(text(1024, 0), api.ErrFull)
	r.there()
	r.puts(text(912, 4), 3)
	r.gets(3, text(912, 4))
	r.drops(3, api.OK)
	r.puts("a", 0)
	r.putsNot(text(700, 0), api.ErrFull)
	r.puts("b", 1)
	r.puts("c", 2)
	r.puts("d", 3)
	r.putsNot("", api.ErrFull)
	for l, want := range []string{"a", "b", "c", "d"} {
		r.gets(l, want)
	}
}

// TestPutDown: the disk goes down at each call of a Put.
func TestPutDown(t *testing.T) {
	for n, many := range sizes {
		for at := 1; at <= 4*many; at++ {
			r := begun(t, 24, 2)
			r.puts("first", 0)
			r.puts(text(500, 3), 3)
			free := r.free()
			calls := r.d.Calls()
			r.does("Arm", r.d.Arm(at))
			r.putsNot(text(n, 0), api.ErrDown)
			if got := r.d.Calls() - calls; got != at {
				t.Error(n, at, "calls of the disk:", got)
			}
			r.there(0, 1, 2, 3)
			r.putsNot(text(n, 0), api.ErrDown)
			r.putsNot(text(1025, 0), api.ErrBig)
			r.there(0, 1, 2, 3)
			r.memory(0)
			if r.free() != free {
				t.Error(n, at, r.free(), free)
			}
			r.comesUp()
			r.gets(0, "first")
			r.gets(3, text(500, 3))
			r.puts(text(n, 5), 3+many)
			r.gets(3+many, text(n, 5))
		}
	}
}

// TestPutHeld: a chain is made though all frames are held, since its pages are in none.
func TestPutHeld(t *testing.T) {
	r := begun(t, 20, 2)
	r.puts("a", 0)
	r.puts("b", 1)
	r.holds(0, 1)
	r.puts(text(600, 0), 4)
	r.memory(2, 0, 1)
	r.lets(0, 1)
	r.gets(4, text(600, 0))
}

// TestPutDirty: what is changed in memory stays there.
func TestPutDirty(t *testing.T) {
	r := begun(t, 9, 2)
	r.pages("", "")
	r.commits()
	r.does("Put", r.p.Put(0, says(-1, 1, "x")))
	r.takes(3)
	r.unchanged(func() { r.putsNot(text(912, 0), api.ErrFull) })
	r.unchanged(func() {
		l := r.put(text(684, 0))
		r.does("Drop", r.p.Drop(l-2))
		r.does("Drop", r.p.Drop(l-1))
		r.does("Drop", r.p.Drop(l))
	})
	r.stored(0, "")
	r.gets(0, "x")
}

// TestAllHeld: no frame for a page of the chain.
func TestAllHeld(t *testing.T) {
	for i := range 5 {
		// All frames but those of the i first pages are held by others, which is to say: so many are held that are in memory.
		r := begun(t, 24, 1+i)
		r.puts(text(1024, i), 4)
		r.puts("other", 5)
		r.holds(5)
		r.holds(down(i, 5-i)...)
		r.unchanged(func() { r.refused(4, api.ErrPool) })
		r.memory(1+i, append(upTo(5)[5-i:], 5)...)
		r.there(upTo(6)...)
		r.lets(5)
		r.gets(4, text(1024, i))
	}
}

// TestOneFree: one frame that is not held is enough.
func TestOneFree(t *testing.T) {
	r := begun(t, 24, 3)
	r.puts(text(1024, 3), 4)
	r.puts("a", 5)
	r.puts("b", 6)
	r.holds(5, 6)
	r.gets(4, text(1024, 3))
	r.goes(4, 4, 3, 2, 1, 0)
	r.memory(2, 0, 5, 6)
	r.drops(4, api.OK)
	r.memory(2, 5, 6)
	r.there(5, 6)
}

// TestGetDown: what is not in memory can't be read, at each page of the chain.
func TestGetDown(t *testing.T) {
	for n, many := range sizes {
		for i := range many + 1 {
			r := begun(t, 24, 8)
			r.puts(text(n, 1), many-1)
			for _, l := range down(i, many-i) {
				_, e := r.p.Get(l)
				r.does("Get", e)
			}
			r.goesDown()
			if i < many {
				r.refused(many-1, api.ErrDown)
				r.memory(0, upTo(many)[many-i:]...)
				r.there(upTo(many)...)
				r.comesUp()
				r.gets(many-1, text(n, 1))
				continue
			}
			// All of it is in memory, and to drop it nothing is written.
			r.gets(many-1, text(n, 1))
			r.goes(many-1, down(many, 0)...)
			r.drops(many-1, api.OK)
			r.there()
		}
	}
}

// TestFirstDown: of a disk that is down, too, a first page that is not there is ErrRange, and a later one ErrCorrupt.
func TestFirstDown(t *testing.T) {
	r := begun(t, 24, 8)
	r.pages(says(1, 1, "a"))
	r.gets(r.put("b"), "b")
	r.gets(0, "ab")
	r.drops(1, api.OK)
	r.goesDown()
	r.refused(0, api.ErrCorrupt)
	for _, l := range append([]int{1, 511}, badPages...) {
		r.refused(l, api.ErrRange)
	}
	r.putsNot("", api.ErrDown)
}

// TestBroken: of a store that went down in the midst of a commit all that it is asked for is ErrDown.
func TestBroken(t *testing.T) {
	r := begun(t, 24, 2)
	r.puts(text(300, 1), 1)
	r.puts(text(300, 2), 3)
	r.gets(3, text(300, 2))
	r.does("Arm", r.d.Arm(1))
	if e := r.p.Commit(); e != api.ErrDown {
		t.Fatal(int(e))
	}
	r.comesUp()
	r.gets(3, text(300, 2))
	r.goes(3, 3, 2)
	r.drops(3, api.ErrDown)
	r.gets(3, text(300, 2))
	r.refused(1, api.ErrDown)
	for _, l := range append([]int{0, 4, 511}, badPages...) {
		r.refused(l, api.ErrDown)
	}
	for n := range sizes {
		r.putsNot(text(n, 0), api.ErrDown)
	}
	r.putsNot(text(1025, 0), api.ErrBig)
	r.there(0, 1, 2, 3)
}

// TestTorn: a page that does not pass its check is ErrCorrupt, the first one, too.
func TestTorn(t *testing.T) {
	for i := range 5 {
		r := begun(t, 24, 2)
		r.puts(text(1024, i), 4)
		r.puts("other", 5)
		// The last page was written first.
		r.tears(4 - i)
		r.refused(4, api.ErrCorrupt)
		r.there(upTo(6)...)
		for l := range 4 - i {
			r.gets(l, text(1024, i)[228*(4-l):])
		}
		r.gets(5, "other")
	}
}

// TestGetFull: what would have to go from memory can't be written.
func TestGetFull(t *testing.T) {
	for i := range 5 {
		r := begun(t, 14, 1+i)
		r.puts(text(1024, i), 4)
		r.page(says(-1, 1, "x"))
		r.commits()
		r.takes(0)
		r.does("Put", r.p.Put(5, says(-1, 1, "y")))
		// The i first pages are in memory already, so that the first one that is not finds no frame but that of page 5.
		r.holds(down(i, 5-i)...)
		r.unchanged(func() { r.refused(4, api.ErrFull) })
		r.memory(i, append(upTo(5)[5-i:], 5)...)
		r.gets(5, "y")
		r.does("Drop", r.p.Drop(6))
		r.gets(4, text(1024, i))
		r.gets(5, "y")
	}
}

// TestDropHeld: one of a chain's pages is held: those ahead of it are dropped, and it and those behind it stay.
func TestDropHeld(t *testing.T) {
	for n, many := range sizes {
		for i := range many {
			for _, frames := range []int{2, 8} {
				r := begun(t, 24, frames)
				value := text(n, i)
				r.puts(value, many-1)
				r.puts("other", many)
				l := many - 1 - i
				r.holds(l)
				free := r.free()
				r.drops(many-1, api.ErrPinned)
				r.there(append(upTo(l+1), many)...)
				if got := r.free(); got != free+i {
					t.Error(n, i, got, free)
				}
				if i > 0 {
					r.refused(many-1, api.ErrRange)
				}
				r.gets(l, value[228*i:])
				r.drops(l, api.ErrPinned)
				r.lets(l)
				r.drops(l, api.OK)
				r.there(many)
				r.gets(many, "other")
			}
		}
	}
}

// TestDropTwoHeld: the first one that is held ends it.
func TestDropTwoHeld(t *testing.T) {
	r := begun(t, 24, 8)
	r.puts(text(1024, 0), 4)
	r.holds(1, 3, 3)
	r.drops(4, api.ErrPinned)
	r.there(0, 1, 2, 3)
	r.lets(3)
	r.drops(3, api.ErrPinned)
	r.there(0, 1, 2, 3)
	r.lets(3)
	r.drops(3, api.ErrPinned)
	r.there(0, 1)
	r.lets(1)
	r.drops(1, api.OK)
	r.there()
}

// TestDropHeldCorrupt: that it is no chain is named first, and nothing is dropped.
func TestDropHeldCorrupt(t *testing.T) {
	r := begun(t, 24, 8)
	r.pages(says(1, 1, "a"), says(2, 1, "b"), says(-1, 229, ""))
	r.holds(0, 1, 2)
	r.unchanged(func() { r.refused(0, api.ErrCorrupt) })
}

// TestDropHeldAll: with all frames held by others, the chain can't be gone through, and nothing is dropped.
func TestDropHeldAll(t *testing.T) {
	r := begun(t, 24, 1)
	r.puts(text(300, 0), 1)
	r.holds(1)
	r.unchanged(func() { r.refused(1, api.ErrPool) })
	r.holds(1)
	r.unchanged(func() { r.refused(1, api.ErrPool) })
	r.lets(1, 1)
	r.drops(1, api.OK)
}

// TestHeldIsRead: a page that somebody holds is read, and stays held as often.
func TestHeldIsRead(t *testing.T) {
	r := begun(t, 24, 8)
	r.puts(text(500, 2), 2)
	r.holds(1, 1)
	r.gets(2, text(500, 2))
	r.goes(2, 2, 1, 0)
	r.memory(1, 0, 1, 2)
	r.lets(1, 1)
	if e := r.p.Let(1); e != api.ErrPinned {
		t.Error(int(e))
	}
	if e := chain.Drop(r.p, 2); e != api.OK {
		t.Error(int(e))
	}
	r.memory(0)
}
