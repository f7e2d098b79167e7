package pool_test

import (
	"testing"

	"horologe/api"
	"horologe/page"
	"horologe/root"
)

// TestReadErrorsFirst: what is wrong with reading is named ahead of there being no room in the pool, and of what can't be written.
func TestReadErrorsFirst(t *testing.T) {
	r := begun(t, 12, 4, 2)
	r.holds(0, name(0))
	r.holds(1, name(1))
	r.d.Write(2+4*2, "torn")
	r.holdsNot(2, api.ErrCorrupt)
	r.getsNot(2, api.ErrCorrupt)
	r.puts(2, "x", api.ErrCorrupt)
	r.holdsNot(4, api.ErrRange)
	r.holdsNot(3, api.ErrPool)
	r.goesDown()
	r.holdsNot(3, api.ErrDown)
	r.getsNot(3, api.ErrDown)
	r.puts(3, "x", api.ErrDown)
	r.holdsNot(4, api.ErrRange)
	r.has(0, 1)
	r.counts(2, 2, 2)
	r = filled(t, 4, 1)
	r.puts(0, "zero", api.OK)
	r.d.Write(2+4*2, "torn")
	r.holdsNot(2, api.ErrCorrupt)
	r.puts(4, "x", api.ErrRange)
	r.holdsNot(3, api.ErrFull)
	r.goesDown()
	r.holdsNot(3, api.ErrDown)
	r.has(0)
	r.gets(0, "zero")
}

// TestDown: of a disk that is down, what is in memory is there, and nothing else.
func TestDown(t *testing.T) {
	r := begun(t, 14, 6, 3)
	r.gets(0, name(0))
	r.puts(1, "one", api.OK)
	r.holds(2, name(2))
	r.goesDown()
	r.holds(0, name(0))
	r.lets(0, api.OK)
	r.sets(2, "two", api.OK)
	r.gets(2, "two")
	r.puts(1, "eins", api.OK)
	r.gets(1, "eins")
	r.holdsNot(3, api.ErrDown)
	r.getsNot(3, api.ErrDown)
	r.puts(3, "x", api.ErrDown)
	r.makesNone("x", api.ErrDown)
	r.evicts(1, api.ErrDown)
	r.evicts(2, api.ErrPinned)
	r.commits(api.ErrPinned)
	r.drops(2, api.ErrPinned)
	r.lets(2, api.OK)
	r.commits(api.ErrDown)
	r.has(0, 1, 2)
	r.counts(3, 3, 0)
	r.gets(1, "eins")
	// What needs no writing.
	r.evicts(0, api.OK)
	r.has(1, 2)
	r.drops(4, api.OK)
	r.drops(2, api.OK)
	r.has(1)
	r.comesUp()
	// None of the commit's pages was written, so that the store is whole.
	r.makes("new", 2)
	r.gets(2, "new")
	r.gets(1, "eins")
	r.drops(5, api.OK)
	r.makes("four", 4)
	r.commits(api.OK)
	r.reopened(name(0), "eins", "new", name(3), "four")
	r.goesDown()
	r.aborts()
	r.has()
	r.getsNot(1, api.ErrDown)
	r.comesUp()
	r.gets(1, "eins")
}

// TestGoesDownInHold: in the midst of writing what is to go, at each of its calls.
func TestGoesDownInHold(t *testing.T) {
	for n := 1; n <= 4; n++ {
		for _, act := range []string{"hold", "get", "put"} {
			r := begun(t, 14, 4, 2)
			r.puts(0, "zero", api.OK)
			r.puts(1, "one", api.OK)
			r.arms(n)
			r.calls(n, func() {
				switch act {
				case "hold":
					r.holdsNot(2, api.ErrDown)
				case "get":
					r.getsNot(2, api.ErrDown)
				case "put":
					r.puts(2, "two", api.ErrDown)
				}
			})
			r.has(0, 1)
			r.counts(2, 2, 0)
			r.lets(2, api.ErrPinned)
			if free, used, fresh, leaving := r.s.Count(); free != 9 || used != 5 || fresh != 0 || leaving != 0 {
				t.Error(n, act, free, used, fresh, leaving)
			}
			r.comesUp()
			r.stored(0, name(0))
			// The hand stands behind frame 0, and frame 1 is not used any more.
			r.calls(4, func() { r.gets(2, name(2)) })
			r.has(0, 2)
			r.stored(1, "one")
			r.stored(0, name(0))
			r.gets(0, "zero")
			r.calls(4, func() { r.evicts(0, api.OK) })
			r.stored(0, "zero")
		}
	}
}

func TestGoesDownInEvict(t *testing.T) {
	for n := 1; n <= 4; n++ {
		for _, fresh := range []bool{false, true} {
			r := begun(t, 14, 4, 3)
			if fresh {
				r.puts(1, text(232, 5), api.OK)
				r.evicts(0, api.OK)
			}
			r.gets(0, name(0))
			r.puts(1, text(232, 9), api.OK)
			r.arms(n)
			r.calls(n, func() { r.evicts(1, api.ErrDown) })
			r.has(0, 1)
			r.evicts(1, api.ErrDown)
			r.evicts(2, api.OK)
			r.evicts(0, api.OK)
			r.has(1)
			r.gets(1, text(232, 9))
			r.comesUp()
			// It is still dirty.
			r.calls(4, func() { r.evicts(1, api.OK) })
			r.has()
			r.gets(1, text(232, 9))
			r.commits(api.OK)
			r.reopened(name(0), text(232, 9), name(2), name(3))
		}
	}
}

// downInCommit is a rig whose disk went down at the n-th call of a commit with three dirty frames, and came up.
func downInCommit(t *testing.T, n int) *rig {
	t.Helper()
	r := begun(t, 16, 4, 4)
	r.puts(0, "zero", api.OK)
	r.gets(3, name(3))
	r.puts(1, "one", api.OK)
	r.puts(2, "two", api.OK)
	r.arms(n)
	r.calls(n, func() { r.commits(api.ErrDown) })
	r.has(0, 1, 2, 3)
	r.counts(4, 4, 0)
	r.gets(0, "zero")
	r.gets(1, "one")
	r.gets(2, "two")
	r.gets(3, name(3))
	r.comesUp()
	return r
}

// TestCommitGoesDown: in the midst of writing the frames, at each call: what was written is not dirty any more, and the rest is.
func TestCommitGoesDown(t *testing.T) {
	for n := 1; n <= 12; n++ {
		r := downInCommit(t, n)
		for i, frame := range []int{0, 2, 3} {
			many := 4
			if i < (n-1)/4 {
				many = 0
			}
			r.calls(many, func() { r.evicts(frame, api.OK) })
		}
		r.calls(0, func() { r.evicts(1, api.OK) })
		r = downInCommit(t, n)
		r.calls(4*(3-(n-1)/4)+4+3, func() { r.commits(api.OK) })
		r.reopened("zero", "one", "two", name(3))
		r = downInCommit(t, n)
		r.aborts()
		r.has()
		for l := range 4 {
			r.gets(l, name(l))
		}
	}
}

// TestCommitBreaks: in the midst of the store's own commit, at each call: all frames are written, and the store is broken.
func TestCommitBreaks(t *testing.T) {
	for n := 13; n <= 19; n++ {
		r := downInCommit(t, n)
		r.commits(api.ErrDown)
		r.has(0, 1, 2, 3)
		r.calls(0, func() { r.evicts(0, api.OK) })
		r.getsNot(0, api.ErrDown)
		r.calls(0, func() { r.evicts(2, api.OK) })
		r.calls(0, func() { r.evicts(3, api.OK) })
		r.has(3)
		r.gets(3, name(3))
		r.aborts()
		r.has()
		r.getsNot(3, api.ErrDown)
	}
}

// TestBroken: what a pool answers whose store is broken, though the disk is up.
func TestBroken(t *testing.T) {
	r := begun(t, 14, 5, 3)
	r.gets(0, name(0))
	r.gets(1, name(1))
	r.gets(2, name(2))
	r.arms(1)
	r.commits(api.ErrDown)
	r.comesUp()
	r.calls(0, func() {
		// What is in memory is there.
		r.holds(0, name(0))
		r.sets(0, "zero", api.OK)
		r.gets(0, "zero")
		r.puts(1, "one", api.OK)
		r.gets(1, "one")
		// Whatever is wrong with a page that isn't, the store names that it is broken first.
		for _, l := range append([]int{3, 4, 5, 511}, badPages...) {
			r.holdsNot(l, api.ErrDown)
			r.getsNot(l, api.ErrDown)
			r.puts(l, "x", api.ErrDown)
			r.puts(l, text(233, 0), api.ErrBig)
			r.drops(l, api.ErrDown)
			r.lets(l, api.ErrPinned)
			r.sets(l, "x", api.ErrPinned)
		}
		r.makesNone("x", api.ErrDown)
		r.drops(0, api.ErrPinned)
		r.drops(1, api.ErrDown)
		r.drops(2, api.ErrDown)
		r.evicts(0, api.ErrPinned)
		r.evicts(1, api.ErrDown)
		r.evicts(3, api.ErrRange)
		r.commits(api.ErrPinned)
		r.has(0, 1, 2)
		r.counts(3, 3, 1)
		r.gets(1, "one")
		// It is named ahead of there being no room in the pool.
		r.holds(1, "one")
		r.holds(2, name(2))
		r.holdsNot(3, api.ErrDown)
		r.lets(2, api.OK)
		r.lets(1, api.OK)
		r.lets(0, api.OK)
		r.commits(api.ErrDown)
		r.evicts(2, api.OK)
		r.has(0, 1)
		r.evicts(2, api.OK)
		r.getsNot(2, api.ErrDown)
		r.aborts()
		r.has()
		r.counts(3, 0, 0)
		r.getsNot(0, api.ErrDown)
		r.commits(api.ErrDown)
	})
	r.reopened(name(0), name(1), name(2), name(3), name(4))
}

// TestFull: no physical page is free, where what is dirty must be written.
func TestFull(t *testing.T) {
	r := filled(t, 5, 2)
	r.puts(0, "zero", api.OK)
	r.puts(1, "one", api.OK)
	r.calls(0, func() {
		for range 3 {
			r.holdsNot(2, api.ErrFull)
			r.getsNot(3, api.ErrFull)
			r.puts(2, "x", api.ErrFull)
			r.evicts(0, api.ErrFull)
			r.evicts(1, api.ErrFull)
			r.commits(api.ErrFull)
			r.has(0, 1)
			r.counts(2, 2, 0)
			r.gets(0, "zero")
			r.gets(1, "one")
		}
	})
	r.stored(0, name(0))
	// What is not dirty may go.
	r.drops(0, api.OK)
	r.gets(2, name(2))
	r.has(1, 2)
	r.getsNot(3, api.ErrFull)
	r.gets(3, name(3))
	r.has(1, 3)
	r.aborts()
	for l := range 5 {
		r.gets(l, name(l))
	}
}

// TestFullButFresh: what is fresh needs no free page.
func TestFullButFresh(t *testing.T) {
	r := begun(t, 5, 3, 2)
	r.makes("three", 3)
	r.puts(3, "drei", api.OK)
	r.calls(4, func() { r.evicts(0, api.OK) })
	r.stored(3, "drei")
	r.puts(3, "trois", api.OK)
	r.puts(0, "zero", api.OK)
	r.calls(4, func() { r.gets(1, name(1)) })
	r.stored(3, "trois")
	r.has(0, 1)
	r.evicts(1, api.ErrFull)
}

// TestCommitSecondFull: of three dirty frames the second one finds no free page.
func TestCommitSecondFull(t *testing.T) {
	r := begun(t, 5, 3, 3)
	for l, x := range []string{"zero", "one", "two"} {
		r.puts(l, x, api.OK)
	}
	r.calls(4, func() { r.commits(api.ErrFull) })
	r.has(0, 1, 2)
	r.counts(3, 3, 0)
	r.stored(0, "zero")
	r.stored(1, name(1))
	r.gets(1, "one")
	// Again: the first one is not dirty any more.
	r.calls(0, func() { r.commits(api.ErrFull) })
	r.calls(0, func() {
		r.evicts(0, api.OK)
		r.evicts(1, api.ErrFull)
		r.evicts(2, api.ErrFull)
	})
	r.has(1, 2)
	r.reopened(name(0), name(1), name(2))
	r.aborts()
	for l := range 3 {
		r.gets(l, name(l))
	}
}

// TestCommitSecondFullThirdFresh: the third one could be written, but the first error ends it.
func TestCommitSecondFullThirdFresh(t *testing.T) {
	r := begun(t, 5, 2, 3)
	r.makes("two", 2)
	for l, x := range []string{"zero", "one", "zwei"} {
		r.puts(l, x, api.OK)
	}
	r.calls(4, func() { r.commits(api.ErrFull) })
	r.stored(0, "zero")
	r.stored(1, name(1))
	r.stored(2, "two")
	r.calls(0, func() { r.evicts(0, api.OK) })
	r.evicts(1, api.ErrFull)
	r.calls(4, func() { r.evicts(2, api.OK) })
	r.stored(2, "zwei")
	r.has(1)
}

// TestCommitTableFull: all frames are written, and there is no room for the table.
func TestCommitTableFull(t *testing.T) {
	r := begun(t, 4, 2, 2)
	r.puts(1, "one", api.OK)
	r.calls(4, func() { r.commits(api.ErrFull) })
	r.stored(1, "one")
	r.calls(0, func() { r.commits(api.ErrFull) })
	r.has(1)
	r.calls(0, func() { r.evicts(0, api.OK) })
	r.gets(1, "one")
	r.reopened(name(0), name(1))
	r.aborts()
	r.gets(1, name(1))
	r.commits(api.OK)
	r.reopened(name(0), name(1))
}

// greatest is a pool of two frames over a store of the greatest epoch, with the logical page 0.
func greatest(t *testing.T) *rig {
	t.Helper()
	d := newDisk(t, 6)
	page.Write(d, api.Page{ID: 0, Epoch: 1 << 40, Kind: api.KData, Payload: "a"})
	page.Write(d, api.Page{ID: 1, Epoch: 1 << 40, Kind: api.KTable, Payload: "\x00\x01"})
	slot, e := root.Put(root.Root{Epoch: 1 << 40, Logical: 1, Parts: []int{1}})
	if e != api.OK {
		t.Fatal(int(e))
	}
	d.Write(0, slot)
	d.Sync()
	s := open(t, d)
	return &rig{T: t, d: d, s: s, p: newPool(t, s, 2)}
}

// TestCommitGreatestEpoch: the store's own error of a commit, with nothing changed.
func TestCommitGreatestEpoch(t *testing.T) {
	r := greatest(t)
	r.gets(0, "a")
	for range 2 {
		r.calls(0, func() { r.commits(api.ErrRange) })
		r.has(0)
		r.gets(0, "a")
	}
	r.holds(0, "a")
	r.commits(api.ErrPinned)
	r.reopened("a")
}

// TestCrash: what was committed through a pool is there behind a crash, at whichever call of what came then.
func TestCrash(t *testing.T) {
	for n := 1; n <= 26; n++ {
		for _, keeps := range []int{0, 1, 2, 3} {
			r := begun(t, 16, 4, 2)
			r.puts(0, "zero", api.OK)
			r.puts(1, "one", api.OK)
			r.commits(api.OK)
			r.arms(n)
			for l := range 4 {
				r.p.Put(l, "new "+name(l))
			}
			done := r.p.Commit() == api.OK
			keep := make([]bool, r.d.Loose())
			for i := range keep {
				keep[i] = keeps == 1 || keeps > 1 && i%2 == keeps%2
			}
			r.d.Crash(api.Crash{Keep: keep, Torn: n % 5, Bytes: n})
			s := open(t, r.d)
			switch {
			case s.Epoch() == 4:
				r.reopened("new "+name(0), "new "+name(1), "new "+name(2), "new "+name(3))
			case s.Epoch() == 3 && !done:
				r.reopened("zero", "one", name(2), name(3))
			default:
				t.Error(n, keeps, done, s.Epoch())
			}
		}
	}
}

// TestPoolsApart: pools over two disks know nothing of one another.
func TestPoolsApart(t *testing.T) {
	a, b := begun(t, 12, 3, 2), begun(t, 12, 3, 2)
	a.holds(0, name(0))
	a.sets(0, "a", api.OK)
	b.has()
	b.lets(0, api.ErrPinned)
	b.gets(0, name(0))
	b.puts(1, "b", api.OK)
	b.commits(api.OK)
	a.has(0)
	a.counts(2, 1, 1)
	a.gets(1, name(1))
	b.aborts()
	a.gets(0, "a")
	a.has(0, 1)
}

// TestOverOldImage: a pool over what is opened anew has nothing of what was in memory before.
func TestOverOldImage(t *testing.T) {
	r := begun(t, 12, 3, 2)
	r.puts(0, "zero", api.OK)
	r.commits(api.OK)
	r.puts(0, "lost", api.OK)
	r.puts(1, "lost", api.OK)
	r.evicts(1, api.OK)
	s := open(t, r.d)
	r = &rig{T: t, d: r.d, s: s, p: newPool(t, s, 2)}
	r.has()
	r.gets(0, "zero")
	r.gets(1, name(1))
}
