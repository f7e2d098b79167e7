package disk

import (
	"fmt"
	"math"
	"math/rand"
	"slices"
	"strings"
	"testing"

	"horologe/api"
)

// full is a text with bytes 0 behind it, up to a sector.
func full(s string) string { return s + strings.Repeat("\x00", api.Sector-len(s)) }

// bytesOf are so many bytes, of which no two that stand beside each other are alike, none of them 0.
func bytesOf(n, from int) string {
	b := make([]byte, n)
	for i := range b {
		b[i] = byte(1 + (from+i)%255)
	}
	return string(b)
}

func made(t *testing.T, sectors int) *Disk {
	t.Helper()
	d, e := New(sectors)
	if d == nil || e != api.OK {
		t.Fatal("New", sectors, e)
	}
	return d
}

// image makes a disk of whole sectors, of which each begins with one of these texts.
func image(t *testing.T, l ...string) *Disk {
	t.Helper()
	var b strings.Builder
	for _, s := range l {
		b.WriteString(full(s))
	}
	d, e := Of(b.String())
	if d == nil || e != api.OK {
		t.Fatal("Of", l, e)
	}
	return d
}

func write(t *testing.T, d *Disk, i int, s string) {
	t.Helper()
	if e := d.Write(i, s); e != api.OK {
		t.Fatal("Write", i, e)
	}
}

func sync(t *testing.T, d *Disk) {
	t.Helper()
	if e := d.Sync(); e != api.OK {
		t.Fatal("Sync", e)
	}
}

func crash(t *testing.T, d *Disk, c api.Crash) {
	t.Helper()
	if e := d.Crash(c); e != api.OK {
		t.Fatal("Crash", c, e)
	}
}

func arm(t *testing.T, d *Disk, n int) {
	t.Helper()
	if e := d.Arm(n); e != api.OK {
		t.Fatal("Arm", n, e)
	}
}

// all are a disk's sectors, each of which must be there.
func all(t *testing.T, d *Disk) []string {
	t.Helper()
	var l []string
	for i := range d.Sectors() {
		s, e := d.Read(i)
		if e != api.OK || len(s) != api.Sector {
			t.Fatal("Read", i, len(s), e)
		}
		l = append(l, s)
	}
	return l
}

// holds asks whether a disk's sectors are these, bytes 0 behind each.
func holds(t *testing.T, d *Disk, l ...string) {
	t.Helper()
	var want []string
	for _, s := range l {
		want = append(want, full(s))
	}
	if got := all(t, d); !slices.Equal(got, want) {
		t.Errorf("sectors %q, want %q", got, want)
	}
}

// looks asks whether a disk's looks are these.
func looks(t *testing.T, d *Disk, down bool, loose, calls int) {
	t.Helper()
	if d.Down() != down || d.Loose() != loose || d.Calls() != calls {
		t.Errorf("down %v, loose %d, calls %d, want %v, %d, %d", d.Down(), d.Loose(), d.Calls(), down, loose, calls)
	}
}

func nothing() api.Crash { return api.Crash{Torn: -1} }

func everything(n int) api.Crash { return api.Crash{Keep: slices.Repeat([]bool{true}, n), Torn: -1} }

// P10.1

func TestNew(t *testing.T) {
	for _, n := range []int{1, 2, 3, 64, 4095, 4096} {
		d, e := New(n)
		if d == nil || e != api.OK {
			t.Fatal(n, e)
		}
		if d.Sectors() != n {
			t.Error(n, d.Sectors())
		}
		looks(t, d, false, 0, 0)
		for i, s := range all(t, d) {
			if s != full("") {
				t.Fatal(n, i, s)
			}
		}
		if s, e := d.Read(n); s != "" || e != api.ErrRange {
			t.Error(n, s, e)
		}
	}
}

func TestNewRefuses(t *testing.T) {
	for _, n := range []int{0, -1, -4096, 4097, 1 << 20, 1 << 32, 1<<32 + 1, math.MaxInt, math.MinInt} {
		if d, e := New(n); d != nil || e != api.ErrArg {
			t.Error(n, d != nil, e)
		}
	}
}

func TestOf(t *testing.T) {
	for _, n := range []int{1, 2, 63, 64, 65, 127, 128, 129, 256, 1000, 4095*64 + 1, 4096*64 - 1, 4096 * 64} {
		s := bytesOf(n, n)
		d, e := Of(s)
		if d == nil || e != api.OK {
			t.Fatal(n, e)
		}
		many := (n + 63) / 64
		if d.Sectors() != many {
			t.Error(n, d.Sectors())
		}
		looks(t, d, false, 0, 0)
		want := s + strings.Repeat("\x00", many*64-n)
		if strings.Join(all(t, d), "") != want {
			t.Error(n, "other bytes than the image's")
		}
		if s, e := d.Read(many); s != "" || e != api.ErrRange {
			t.Error(n, s, e)
		}
		crash(t, d, nothing())
		if strings.Join(all(t, d), "") != want {
			t.Error(n, "the image's bytes are not safe")
		}
	}
}

func TestOfEmptyAndTooLong(t *testing.T) {
	for _, n := range []int{0, 4096*64 + 1, 4097 * 64, 1 << 20} {
		if d, e := Of(bytesOf(n, 0)); d != nil || e != api.ErrArg {
			t.Error(n, d != nil, e)
		}
	}
}

// TestOfBytesZero holds that an image of bytes 0 alone is one.
func TestOfBytesZero(t *testing.T) {
	d, e := Of("\x00")
	if e != api.OK || d.Sectors() != 1 {
		t.Fatal(e)
	}
	holds(t, d, "")
}

// TestImageIsOld holds that an image's bytes are the old ones of what is written first.
func TestImageIsOld(t *testing.T) {
	d := image(t, "one", "two", "three")
	write(t, d, 1, "new")
	looks(t, d, false, 1, 1)
	crash(t, d, nothing())
	holds(t, d, "one", "two", "three")
	write(t, d, 1, "new")
	crash(t, d, everything(1))
	holds(t, d, "one", "new", "three")
}

// TestDisksApart holds that disks of one image, or of as many sectors, know nothing of one another.
func TestDisksApart(t *testing.T) {
	s := bytesOf(200, 3)
	a, _ := Of(s)
	b, _ := Of(s)
	c, d := made(t, 4), made(t, 4)
	write(t, a, 0, "a")
	write(t, c, 0, "c")
	arm(t, a, 1)
	arm(t, c, 1)
	if a.Sync() != api.ErrDown || c.Sync() != api.ErrDown {
		t.Error("not down")
	}
	looks(t, b, false, 0, 0)
	looks(t, d, false, 0, 0)
	if strings.Join(all(t, b), "") != s+strings.Repeat("\x00", 56) {
		t.Error("the other disk's bytes have changed")
	}
	holds(t, d, "", "", "", "")
}

// P10.2

func TestWrite(t *testing.T) {
	for _, n := range []int{0, 1, 2, 32, 62, 63, 64, 65, 66, 128, 129, 5000} {
		for _, before := range []int{0, 1, 63, 64} {
			d := image(t, "x", bytesOf(before, 100), "y")
			s := bytesOf(n, n)
			write(t, d, 1, s)
			holds(t, d, "x", s[:min(n, 64)], "y")
			looks(t, d, false, 1, 1)
			sync(t, d)
			holds(t, d, "x", s[:min(n, 64)], "y")
			looks(t, d, false, 0, 2)
			crash(t, d, nothing())
			holds(t, d, "x", s[:min(n, 64)], "y")
		}
	}
}

// TestWriteAnyBytes holds that each byte stays as it is, whether it is part of a letter or not.
func TestWriteAnyBytes(t *testing.T) {
	var b []byte
	for i := range 256 {
		b = append(b, byte(i))
	}
	d := made(t, 4)
	for i := range 4 {
		write(t, d, i, string(b[64*i:64*i+64]))
	}
	if got := strings.Join(all(t, d), ""); got != string(b) {
		t.Errorf("%q", got)
	}
	if d, e := Of(string(b)); e != api.OK || strings.Join(all(t, d), "") != string(b) {
		t.Error(e)
	}
	cut := made(t, 2)
	write(t, cut, 0, strings.Repeat("é", 40)[1:])
	if got, _ := cut.Read(0); got != strings.Repeat("é", 40)[1:65] {
		t.Errorf("%q", got)
	}
}

func TestWriteAgain(t *testing.T) {
	d := made(t, 1)
	for i, s := range []string{"long text", "short", "", "some more", bytesOf(64, 9), "z"} {
		write(t, d, 0, s)
		holds(t, d, s)
		looks(t, d, false, 1, i+1)
	}
	crash(t, d, nothing())
	holds(t, d, "")
}

// TestOldIsOfSync holds that the old bytes of a sector that was written twice are those of the last Sync, not those of the first time.
func TestOldIsOfSync(t *testing.T) {
	d := made(t, 2)
	write(t, d, 0, "a")
	sync(t, d)
	write(t, d, 0, "b")
	sync(t, d)
	write(t, d, 0, "c")
	write(t, d, 0, "d")
	write(t, d, 0, "e")
	looks(t, d, false, 1, 7)
	holds(t, d, "e", "")
	crash(t, d, nothing())
	holds(t, d, "b", "")
}

// TestSameIsLoose holds that a sector is loose, though what was written is what stood there.
func TestSameIsLoose(t *testing.T) {
	d := image(t, "a", "b", "c")
	write(t, d, 0, "a")
	write(t, d, 1, "B")
	write(t, d, 1, "b")
	write(t, d, 2, "new")
	looks(t, d, false, 3, 4)
	crash(t, d, api.Crash{Keep: []bool{false, false, true}, Torn: -1})
	holds(t, d, "a", "b", "new")
}

func TestSectorsThatAreNot(t *testing.T) {
	for _, n := range []int{1, 2, 5, 4096} {
		d := made(t, n)
		write(t, d, 0, "first")
		write(t, d, n-1, "last")
		before, loose := all(t, d), d.Loose()
		for _, i := range []int{-1, -2, -n, n, n + 1, 2 * n, 1 << 32, math.MaxInt, math.MinInt} {
			if e := d.Write(i, "x"); e != api.ErrRange {
				t.Error(n, i, e)
			}
			if s, e := d.Read(i); s != "" || e != api.ErrRange {
				t.Error(n, i, s, e)
			}
		}
		looks(t, d, false, loose, 2)
		if !slices.Equal(all(t, d), before) {
			t.Error(n, "a sector has changed")
		}
		if s, e := d.Read(n - 1); s != full("last") || e != api.OK {
			t.Error(n, s, e)
		}
	}
}

func TestSyncOfNothing(t *testing.T) {
	d := image(t, "a", "b")
	for i := range 3 {
		sync(t, d)
		looks(t, d, false, 0, i+1)
		holds(t, d, "a", "b")
	}
}

func TestSync(t *testing.T) {
	d := made(t, 3)
	for i, s := range []string{"x", "y", "z"} {
		write(t, d, i, s)
		looks(t, d, false, i+1, i+1)
	}
	sync(t, d)
	looks(t, d, false, 0, 4)
	write(t, d, 1, "Y")
	looks(t, d, false, 1, 5)
	crash(t, d, nothing())
	holds(t, d, "x", "y", "z")
}

// TestReadChangesNothing holds that whoever reads sees what was written, loose or not, and that nothing comes of it.
func TestReadChangesNothing(t *testing.T) {
	d := made(t, 2)
	write(t, d, 0, "a")
	for range 5 {
		holds(t, d, "a", "")
	}
	looks(t, d, false, 1, 1)
	crash(t, d, nothing())
	holds(t, d, "", "")
}

// TestReadStays holds that what was read stays as it is, whatever becomes of the sector.
func TestReadStays(t *testing.T) {
	d := image(t, "old")
	before, _ := d.Read(0)
	write(t, d, 0, "new")
	during, _ := d.Read(0)
	crash(t, d, api.Crash{Bytes: 1})
	after, _ := d.Read(0)
	write(t, d, 0, "other")
	if before != full("old") || during != full("new") || after != full("nld") {
		t.Errorf("%q %q %q", before, during, after)
	}
}

func TestDownRefuses(t *testing.T) {
	d := image(t, "a", "b")
	arm(t, d, 1)
	if e := d.Write(0, "A"); e != api.ErrDown {
		t.Fatal(e)
	}
	for _, i := range []int{-1, 0, 1, 2, math.MinInt, math.MaxInt} {
		if e := d.Write(i, "x"); e != api.ErrDown {
			t.Error(i, e)
		}
		if s, e := d.Read(i); s != "" || e != api.ErrDown {
			t.Error(i, s, e)
		}
	}
	if e := d.Sync(); e != api.ErrDown {
		t.Error(e)
	}
	looks(t, d, true, 1, 1)
	crash(t, d, everything(1))
	holds(t, d, "A", "b")
	looks(t, d, false, 0, 1)
}

// P10.3

// The chapter's example.
func TestExample(t *testing.T) {
	d := made(t, 1)
	write(t, d, 0, "aa")
	sync(t, d)
	write(t, d, 0, "bbb")
	crash(t, d, api.Crash{Torn: 0, Bytes: 1})
	holds(t, d, "ba")
}

// orders are all orders of the numbers below n.
func orders(n int) [][]int {
	if n == 0 {
		return [][]int{nil}
	}
	var l [][]int
	for _, o := range orders(n - 1) {
		for at := range n {
			l = append(l, slices.Insert(slices.Clone(o), at, n-1))
		}
	}
	return l
}

// bits are n bits of a number, the least first.
func bits(x, n int) []bool {
	var l []bool
	for i := range n {
		l = append(l, x>>i&1 == 1)
	}
	return l
}

// TestEveryCrash crashes disks of which some sectors are loose, written in each order, in each way.
func TestEveryCrash(t *testing.T) {
	olds := []string{"old0", "old1", "old2", "old3", "old4", "old5"}
	loose := []int{0, 2, 3, 5}
	for _, o := range orders(len(loose)) {
		for keep := range 1 << len(loose) {
			for torn := -1; torn <= len(loose)+1; torn++ {
				d := image(t, olds...)
				want := slices.Clone(olds)
				for _, j := range o {
					write(t, d, loose[j], fmt.Sprint("NEW", loose[j]))
				}
				for j, i := range loose {
					switch {
					case j == torn:
						want[i] = fmt.Sprint("NE", "d", i)
					case keep>>j&1 == 1:
						want[i] = fmt.Sprint("NEW", i)
					}
				}
				crash(t, d, api.Crash{Keep: bits(keep, len(loose)), Torn: torn, Bytes: 2})
				holds(t, d, want...)
				looks(t, d, false, 0, len(loose))
			}
		}
	}
}

// TestNoneSomeAll holds what stays for Keeps that are as long as the loose sectors, shorter, longer, and nil.
func TestNoneSomeAll(t *testing.T) {
	for _, x := range []struct {
		keep string
		want []string
	}{
		{"", []string{"a", "b", "c", "d"}},
		{"-", []string{"a", "b", "c", "d"}},
		{"+", []string{"a", "B", "c", "d"}},
		{"-+", []string{"a", "b", "C", "d"}},
		{"++", []string{"a", "B", "C", "d"}},
		{"--+", []string{"a", "b", "c", "D"}},
		{"+-+", []string{"a", "B", "c", "D"}},
		{"-++", []string{"a", "b", "C", "D"}},
		{"+++", []string{"a", "B", "C", "D"}},
		{"+++++++++", []string{"a", "B", "C", "D"}},
		{"---++++++", []string{"a", "b", "c", "d"}},
		{"+--+-+-+", []string{"a", "B", "c", "d"}},
	} {
		d := image(t, "a", "b", "c", "d")
		write(t, d, 3, "D")
		write(t, d, 1, "B")
		write(t, d, 2, "C")
		var keep []bool
		for _, r := range x.keep {
			keep = append(keep, r == '+')
		}
		crash(t, d, api.Crash{Keep: keep, Torn: -1})
		holds(t, d, x.want...)
		looks(t, d, false, 0, 3)
		d = image(t, "a")
		crash(t, d, api.Crash{Keep: keep})
		holds(t, d, "a")
	}
}

func TestTornBytes(t *testing.T) {
	old, now := bytesOf(64, 1), bytesOf(64, 101)
	for _, x := range []struct{ bytes, k int }{
		{0, 0}, {1, 1}, {2, 2}, {32, 32}, {63, 63}, {64, 64}, {65, 0}, {66, 1}, {128, 63}, {129, 64}, {130, 0}, {131, 1},
		{-1, 0}, {-2, 0}, {-64, 0}, {-65, 0}, {-66, 0}, {math.MinInt, 0}, {math.MaxInt, math.MaxInt % 65}, {math.MaxInt - 1, math.MaxInt%65 - 1},
	} {
		for _, keep := range [][]bool{nil, {false}, {true}} {
			d := image(t, old)
			write(t, d, 0, now)
			crash(t, d, api.Crash{Keep: keep, Torn: 0, Bytes: x.bytes})
			holds(t, d, now[:x.k]+old[x.k:])
		}
	}
}

// TestTornShort holds that bytes 0 behind what is written are new bytes, too.
func TestTornShort(t *testing.T) {
	for k := range 65 {
		d := image(t, bytesOf(64, 1))
		write(t, d, 0, "abc")
		crash(t, d, api.Crash{Torn: 0, Bytes: k})
		holds(t, d, full("abc")[:k]+bytesOf(64, 1)[k:])
	}
}

// TestTornPlace holds that Torn names a place among the loose sectors, and none if there is no such place.
func TestTornPlace(t *testing.T) {
	for _, x := range []struct {
		torn int
		want []string
	}{
		{math.MinInt, []string{"aaa", "BBB", "ccc", "ddd", "EEE", "fff"}},
		{-1, []string{"aaa", "BBB", "ccc", "ddd", "EEE", "fff"}},
		{0, []string{"aaa", "Bbb", "ccc", "ddd", "EEE", "fff"}},
		{1, []string{"aaa", "BBB", "ccc", "Ddd", "EEE", "fff"}},
		{2, []string{"aaa", "BBB", "ccc", "ddd", "Eee", "fff"}},
		{3, []string{"aaa", "BBB", "ccc", "ddd", "EEE", "fff"}},
		{4, []string{"aaa", "BBB", "ccc", "ddd", "EEE", "fff"}},
		{5, []string{"aaa", "BBB", "ccc", "ddd", "EEE", "fff"}},
		{math.MaxInt, []string{"aaa", "BBB", "ccc", "ddd", "EEE", "fff"}},
	} {
		d := image(t, "aaa", "bbb", "ccc", "ddd", "eee", "fff")
		write(t, d, 4, "EEE")
		write(t, d, 3, "DDD")
		write(t, d, 1, "BBB")
		crash(t, d, api.Crash{Keep: []bool{true, false, true}, Torn: x.torn, Bytes: 1})
		holds(t, d, x.want...)
	}
}

// TestTornOfSync holds that what is torn has the old bytes of the last Sync, though it was written twice since.
func TestTornOfSync(t *testing.T) {
	d := made(t, 2)
	write(t, d, 1, "aaaa")
	sync(t, d)
	write(t, d, 1, "bbbb")
	write(t, d, 1, "cccc")
	crash(t, d, api.Crash{Torn: 0, Bytes: 2})
	holds(t, d, "", "ccaa")
}

// TestCrashIsSafe holds that behind a crash nothing is loose, and that what is there is what a later crash goes back to.
func TestCrashIsSafe(t *testing.T) {
	d := image(t, "aa", "bb", "cc")
	write(t, d, 0, "AA")
	write(t, d, 1, "BB")
	write(t, d, 2, "CC")
	crash(t, d, api.Crash{Keep: []bool{true}, Torn: 2, Bytes: 1})
	holds(t, d, "AA", "bb", "Cc")
	looks(t, d, false, 0, 3)
	for range 2 {
		crash(t, d, nothing())
		holds(t, d, "AA", "bb", "Cc")
	}
	write(t, d, 0, "xx")
	write(t, d, 1, "yy")
	write(t, d, 2, "zz")
	looks(t, d, false, 3, 6)
	crash(t, d, nothing())
	holds(t, d, "AA", "bb", "Cc")
	looks(t, d, false, 0, 6)
}

// TestKeepStays holds that a crash's list is neither changed nor kept, its spare room neither.
func TestKeepStays(t *testing.T) {
	room := []bool{true, false, true, true, false}
	keep := room[1:2:4]
	d := image(t, "a", "b", "c")
	for i, s := range []string{"A", "B", "C"} {
		write(t, d, i, s)
	}
	crash(t, d, api.Crash{Keep: keep, Torn: -1})
	holds(t, d, "a", "b", "c")
	if !slices.Equal(room, []bool{true, false, true, true, false}) {
		t.Error(room)
	}
	room[1], room[2] = true, true
	write(t, d, 0, "A")
	crash(t, d, nothing())
	holds(t, d, "a", "b", "c")
}

// TestArm holds at which call a disk goes down, and what that call has done.
func TestArm(t *testing.T) {
	for n := 1; n <= 6; n++ {
		d := image(t, "0", "0")
		write(t, d, 0, "1")
		arm(t, d, n)
		looks(t, d, false, 1, 1)
		for i := 1; i < n; i++ {
			write(t, d, 0, fmt.Sprint(i+1))
			looks(t, d, false, 1, i+1)
		}
		if e := d.Write(1, "at"); e != api.ErrDown {
			t.Error(n, e)
		}
		looks(t, d, true, 2, n+1)
		crash(t, d, everything(2))
		looks(t, d, false, 0, n+1)
		holds(t, d, fmt.Sprint(n), "at")
	}
}

// TestArmedSync holds that a Sync at which the disk goes down does nothing, and counts.
func TestArmedSync(t *testing.T) {
	for n := 1; n <= 4; n++ {
		d := image(t, "old", "old")
		arm(t, d, n)
		for i := 1; i < n; i++ {
			write(t, d, 0, fmt.Sprint("new", i))
		}
		if e := d.Sync(); e != api.ErrDown {
			t.Error(n, e)
		}
		looks(t, d, true, min(n-1, 1), n)
		crash(t, d, nothing())
		holds(t, d, "old", "old")
	}
	d := image(t, "old")
	write(t, d, 0, "new")
	arm(t, d, 1)
	if e := d.Sync(); e != api.ErrDown {
		t.Error(e)
	}
	crash(t, d, api.Crash{Torn: 0, Bytes: 1})
	holds(t, d, "nld")
}

// TestArmedSyncs holds that a Sync counts as a Write does, and does what it does while the disk is up.
func TestArmedSyncs(t *testing.T) {
	d := made(t, 2)
	write(t, d, 0, "a")
	arm(t, d, 4)
	sync(t, d)
	sync(t, d)
	write(t, d, 1, "b")
	looks(t, d, false, 1, 4)
	if e := d.Sync(); e != api.ErrDown {
		t.Error(e)
	}
	looks(t, d, true, 1, 5)
	crash(t, d, nothing())
	holds(t, d, "a", "")
}

// TestWhatDoesNotCount holds that neither what is refused nor what reads or looks brings the disk nearer to going down.
func TestWhatDoesNotCount(t *testing.T) {
	d := made(t, 2)
	arm(t, d, 2)
	for range 10 {
		d.Read(0)
		d.Read(-1)
		d.Read(2)
		if d.Write(-1, "x") != api.ErrRange || d.Write(2, "x") != api.ErrRange {
			t.Error("no such sector")
		}
		if d.Arm(0) != api.ErrArg || d.Arm(-1) != api.ErrArg {
			t.Error("no such call")
		}
		d.Sectors()
		looks(t, d, false, 0, 0)
	}
	write(t, d, 0, "a")
	looks(t, d, false, 1, 1)
	if d.Write(2, "x") != api.ErrRange || d.Down() {
		t.Error("it goes down at a call that does not count")
	}
	if e := d.Write(1, "b"); e != api.ErrDown {
		t.Error(e)
	}
	looks(t, d, true, 2, 2)
}

// TestDownCounts holds that calls of a disk that is down don't count.
func TestDownCounts(t *testing.T) {
	d := made(t, 2)
	arm(t, d, 1)
	d.Write(0, "a")
	for range 5 {
		d.Write(0, "b")
		d.Write(1, "b")
		d.Sync()
		d.Read(0)
	}
	looks(t, d, true, 1, 1)
	crash(t, d, everything(2))
	holds(t, d, "a", "")
	looks(t, d, false, 0, 1)
}

// TestArmTwice holds that of two the later one counts, whether it is sooner or not, from when it was said.
func TestArmTwice(t *testing.T) {
	for first := 1; first <= 4; first++ {
		for between := range first {
			for second := 1; second <= 6; second++ {
				d := made(t, 1)
				arm(t, d, first)
				for range between {
					write(t, d, 0, "x")
				}
				arm(t, d, second)
				for i := 1; i < second; i++ {
					write(t, d, 0, "x")
				}
				if e := d.Write(0, "x"); e != api.ErrDown || d.Calls() != between+second {
					t.Error(first, between, second, e, d.Calls())
				}
			}
		}
	}
}

// TestArmRefuses holds that an Arm that is refused leaves an earlier one as it was, and that without one nothing is armed.
func TestArmRefuses(t *testing.T) {
	for _, n := range []int{0, -1, -2, math.MinInt} {
		d := made(t, 1)
		if e := d.Arm(n); e != api.ErrArg {
			t.Error(n, e)
		}
		for range 10 {
			write(t, d, 0, "x")
			sync(t, d)
		}
		arm(t, d, 2)
		if e := d.Arm(n); e != api.ErrArg {
			t.Error(n, e)
		}
		write(t, d, 0, "y")
		if e := d.Sync(); e != api.ErrDown {
			t.Error(n, e)
		}
	}
}

func TestArmFar(t *testing.T) {
	for _, n := range []int{1001, 1 << 16, 1<<16 + 3, 1 << 32, 1<<32 + 3, 1<<33 + 1, math.MaxInt} {
		d := made(t, 1)
		arm(t, d, n)
		for range 1000 {
			write(t, d, 0, "x")
		}
		looks(t, d, false, 1, 1000)
	}
}

func TestArmOfDown(t *testing.T) {
	d := made(t, 1)
	arm(t, d, 1)
	d.Sync()
	for _, n := range []int{1, 2, 0, -1, math.MinInt, math.MaxInt} {
		if e := d.Arm(n); e != api.ErrDown {
			t.Error(n, e)
		}
	}
	looks(t, d, true, 0, 1)
	crash(t, d, nothing())
	for range 10 {
		write(t, d, 0, "x")
		sync(t, d)
	}
	looks(t, d, false, 0, 21)
}

// TestCrashDisarms holds that behind a crash the disk is not armed, whether it went down or not.
func TestCrashDisarms(t *testing.T) {
	for n := 1; n <= 4; n++ {
		d := made(t, 1)
		arm(t, d, n)
		for i := range 2 {
			if e := d.Write(0, "x"); (e == api.OK) != (i+1 < n) {
				t.Error(n, i, e)
			}
		}
		crash(t, d, nothing())
		looks(t, d, false, 0, min(n, 2))
		for range 10 {
			write(t, d, 0, "y")
		}
		arm(t, d, 1)
		if e := d.Write(0, "z"); e != api.ErrDown {
			t.Error(n, e)
		}
		crash(t, d, everything(1))
		holds(t, d, "z")
	}
}

// TestDownAgain goes down and crashes again and again.
func TestDownAgain(t *testing.T) {
	d := made(t, 3)
	for i := range 20 {
		arm(t, d, 2)
		write(t, d, i%3, fmt.Sprint(i))
		if e := d.Sync(); e != api.ErrDown {
			t.Error(i, e)
		}
		looks(t, d, true, 1, 2*i+2)
		crash(t, d, api.Crash{Keep: []bool{i >= 17}, Torn: -1})
	}
	holds(t, d, "18", "19", "17")
}

// P10.4

func TestNil(t *testing.T) {
	var d *Disk
	if d.Down() || d.Sectors() != 0 || d.Loose() != 0 || d.Calls() != 0 {
		t.Error("looks of nil")
	}
	for _, i := range []int{-1, 0, 1, math.MaxInt, math.MinInt} {
		if e := d.Write(i, "x"); e != api.ErrNil {
			t.Error(i, e)
		}
		if s, e := d.Read(i); s != "" || e != api.ErrNil {
			t.Error(i, s, e)
		}
		if e := d.Arm(i); e != api.ErrNil {
			t.Error(i, e)
		}
		if e := d.Crash(api.Crash{Keep: []bool{true}, Torn: i, Bytes: i}); e != api.ErrNil {
			t.Error(i, e)
		}
	}
	if e := d.Sync(); e != api.ErrNil {
		t.Error(e)
	}
	if e := d.Crash(api.Crash{}); e != api.ErrNil {
		t.Error(e)
	}
}

func TestLooks(t *testing.T) {
	d := made(t, 4)
	for step, x := range []struct {
		do    func() api.Errno
		e     api.Errno
		down  bool
		loose int
		calls int
	}{
		{func() api.Errno { return d.Write(1, "a") }, api.OK, false, 1, 1},
		{func() api.Errno { return d.Write(1, "b") }, api.OK, false, 1, 2},
		{func() api.Errno { return d.Write(3, "c") }, api.OK, false, 2, 3},
		{func() api.Errno { return d.Write(4, "c") }, api.ErrRange, false, 2, 3},
		{d.Sync, api.OK, false, 0, 4},
		{d.Sync, api.OK, false, 0, 5},
		{func() api.Errno { return d.Write(0, "") }, api.OK, false, 1, 6},
		{func() api.Errno { return d.Arm(2) }, api.OK, false, 1, 6},
		{func() api.Errno { return d.Write(2, "d") }, api.OK, false, 2, 7},
		{d.Sync, api.ErrDown, true, 2, 8},
		{d.Sync, api.ErrDown, true, 2, 8},
		{func() api.Errno { return d.Arm(1) }, api.ErrDown, true, 2, 8},
		{func() api.Errno { return d.Crash(nothing()) }, api.OK, false, 0, 8},
		{func() api.Errno { return d.Crash(nothing()) }, api.OK, false, 0, 8},
		{func() api.Errno { return d.Write(2, "e") }, api.OK, false, 1, 9},
		{func() api.Errno { return d.Crash(nothing()) }, api.OK, false, 0, 9},
	} {
		if e := x.do(); e != x.e {
			t.Error(step, e)
		}
		looks(t, d, x.down, x.loose, x.calls)
		if d.Sectors() != 4 {
			t.Error(step, d.Sectors())
		}
	}
	holds(t, d, "", "b", "", "c")
}

// P10.5, P10.6

// wrote is a call of Write that was not refused.
type wrote struct {
	sector int
	bytes  string
}

// diary is a disk told by what was written since it was last safe, one call behind the other.
type diary struct {
	safe   []string
	since  []wrote
	calls  int
	downAt int
	down   bool
}

// at is what stands in a sector: the last one of what was written there.
func (m *diary) at(i int) string {
	for _, w := range slices.Backward(m.since) {
		if w.sector == i {
			return w.bytes
		}
	}
	return m.safe[i]
}

// loose are the sectors that were written, rising.
func (m *diary) loose() []int {
	var l []int
	for _, w := range m.since {
		l = append(l, w.sector)
	}
	slices.Sort(l)
	return slices.Compact(l)
}

func (m *diary) counted() api.Errno {
	m.calls++
	if m.calls == m.downAt {
		m.down = true
		return api.ErrDown
	}
	return api.OK
}

func (m *diary) write(i int, s string) api.Errno {
	if m.down {
		return api.ErrDown
	}
	if i < 0 || i >= len(m.safe) {
		return api.ErrRange
	}
	m.since = append(m.since, wrote{i, (s + full(""))[:64]})
	return m.counted()
}

func (m *diary) settle() {
	for _, w := range m.since {
		m.safe[w.sector] = w.bytes
	}
	m.since = nil
}

func (m *diary) sync() api.Errno {
	if m.down {
		return api.ErrDown
	}
	if e := m.counted(); e != api.OK {
		return e
	}
	m.settle()
	return api.OK
}

// crash leaves of what was written only what stays, and settles that.
func (m *diary) crash(c api.Crash) {
	var stay []wrote
	for j, i := range m.loose() {
		k := 0
		if j < len(c.Keep) && c.Keep[j] {
			k = 64
		}
		if j == c.Torn {
			k = 0
			for n := c.Bytes; n > 0; n-- {
				k++
				if k == 65 {
					k = 0
				}
			}
		}
		stay = append(stay, wrote{i, m.at(i)[:k] + m.safe[i][k:]})
	}
	m.since = stay
	m.settle()
	m.down, m.downAt = false, 0
}

func (m *diary) arm(n int) api.Errno {
	if m.down {
		return api.ErrDown
	}
	if n < 1 {
		return api.ErrArg
	}
	m.downAt = m.calls + n
	return api.OK
}

// agree asks whether a disk is as its diary says.
func agree(t *testing.T, d *Disk, m *diary) {
	t.Helper()
	looks(t, d, m.down, len(m.loose()), m.calls)
	for i := range m.safe {
		s, e := d.Read(i)
		if m.down {
			if s != "" || e != api.ErrDown {
				t.Fatal(i, s, e)
			}
		} else if s != m.at(i) || e != api.OK {
			t.Fatalf("sector %d: %q, %v, want %q", i, s, e, m.at(i))
		}
	}
}

// anyText is a text of up to some more bytes than a sector has.
func anyText(r *rand.Rand) string {
	b := make([]byte, []int{r.Intn(80), 64, r.Intn(4), 63 + r.Intn(3)}[r.Intn(4)])
	for i := range b {
		b[i] = byte(r.Intn(256))
	}
	return string(b)
}

// anyCrash is a crash for so many loose sectors, or for some fewer or more.
func anyCrash(r *rand.Rand, loose int) api.Crash {
	c := api.Crash{Torn: r.Intn(loose+4) - 2, Bytes: []int{r.Intn(64), 63 + r.Intn(4), r.Intn(400), -r.Intn(200)}[r.Intn(4)]}
	for range r.Intn(loose + 3) {
		c.Keep = append(c.Keep, r.Intn(2) == 0)
	}
	return c
}

// allowed asks of each sector whether it is what a crash may leave, and tells of how many it is neither the new bytes nor the old ones.
func allowed(t *testing.T, safe, now, after []string, loose []int) int {
	t.Helper()
	torn := 0
	for i, s := range after {
		if !slices.Contains(loose, i) {
			if s != safe[i] {
				t.Fatalf("sector %d was safe, and is %q", i, s)
			}
			continue
		}
		if s == now[i] || s == safe[i] {
			continue
		}
		torn++
		begins := false
		for k := range 65 {
			begins = begins || s == now[i][:k]+safe[i][k:]
		}
		if !begins {
			t.Fatalf("sector %d is %q: no beginning of the new bytes, and the rest of the old ones", i, s)
		}
	}
	if torn > 1 {
		t.Fatal("more than one sector is torn:", torn)
	}
	return torn
}

type counts struct{ torn, downs, syncs, loose, refused int }

// crashBoth crashes a disk and its diary alike.
func crashBoth(t *testing.T, r *rand.Rand, d *Disk, m *diary, n *counts) {
	t.Helper()
	loose := m.loose()
	c := anyCrash(r, len(loose))
	var now []string
	for i := range m.safe {
		now = append(now, m.at(i))
	}
	safe := slices.Clone(m.safe)
	if d.Down() {
		n.downs++
	}
	if len(loose) > 2 {
		n.loose++
	}
	crash(t, d, c)
	m.crash(c)
	n.torn += allowed(t, safe, now, all(t, d), loose)
}

// step does one thing to a disk, and to its diary.
func step(t *testing.T, r *rand.Rand, d *Disk, m *diary, n *counts) {
	t.Helper()
	var got, want api.Errno
	switch k := r.Intn(20); {
	case k < 13:
		i, s := r.Intn(len(m.safe)+2)-1, anyText(r)
		got, want = d.Write(i, s), m.write(i, s)
	case k < 16:
		got, want = d.Sync(), m.sync()
		n.syncs++
	case k < 18:
		x := r.Intn(12) - 1
		got, want = d.Arm(x), m.arm(x)
	default:
		crashBoth(t, r, d, m, n)
	}
	if got != want {
		t.Fatal(got, "want", want)
	}
	if got != api.OK {
		n.refused++
	}
	agree(t, d, m)
}

// TestRandom does to disks what comes, and holds them against diaries, step by step.
func TestRandom(t *testing.T) {
	r := rand.New(rand.NewSource(10))
	var n counts
	for range 400 {
		m := &diary{}
		for range 1 + r.Intn(8) {
			m.safe = append(m.safe, (anyText(r) + full(""))[:64])
		}
		d, e := Of(strings.Join(m.safe, ""))
		if e != api.OK {
			t.Fatal(e)
		}
		for range 60 {
			step(t, r, d, m, &n)
		}
	}
	if n.torn < 100 || n.downs < 100 || n.syncs < 1000 || n.loose < 100 || n.refused < 1000 {
		t.Error("too little of something was tried:", n)
	}
}

// TestManyLoose crashes a disk of which each sector is loose, written in any order: which one is which does not hang on it.
func TestManyLoose(t *testing.T) {
	r := rand.New(rand.NewSource(11))
	for _, n := range []int{1, 9, 300, api.MaxSectors} {
		d := made(t, n)
		for _, i := range r.Perm(n) {
			write(t, d, i, fmt.Sprint("new", i))
		}
		looks(t, d, false, n, n)
		c := api.Crash{Torn: n - 1, Bytes: 3}
		for i := range n {
			c.Keep = append(c.Keep, i%3 == 0)
		}
		crash(t, d, c)
		for i, s := range all(t, d) {
			want := ""
			if i%3 == 0 {
				want = fmt.Sprint("new", i)
			}
			if i == n-1 {
				want = "new"
			}
			if s != full(want) {
				t.Fatalf("%d of %d: %q", i, n, s)
			}
		}
	}
}

// TestWriteApart holds that a write changes its own sector alone, in disks of one, of some, and of most sectors.
func TestWriteApart(t *testing.T) {
	for _, n := range []int{1, 2, 3, 7, api.MaxSectors} {
		d, e := Of(bytesOf(64*n, 5))
		if e != api.OK {
			t.Fatal(e)
		}
		for _, i := range []int{0, 1, n / 2, n - 2, n - 1} {
			if i < 0 || i >= n {
				continue
			}
			for _, k := range []int{0, 1, 63, 64, 65, 128, 1000} {
				want := all(t, d)
				s := bytesOf(k, k+i)
				write(t, d, i, s)
				want[i] = full(s[:min(k, 64)])
				if !slices.Equal(all(t, d), want) {
					t.Error(n, i, k, "another sector has changed")
				}
			}
		}
	}
}

// TestAgain holds that the same calls make the same disk.
func TestAgain(t *testing.T) {
	told := func() string {
		r := rand.New(rand.NewSource(12))
		d := made(t, 40)
		var b strings.Builder
		for range 300 {
			switch k := r.Intn(30); {
			case k == 0:
				fmt.Fprintln(&b, d.Crash(anyCrash(r, d.Loose())))
			case k == 1:
				fmt.Fprintln(&b, d.Arm(r.Intn(90)))
			case k == 2:
				fmt.Fprintln(&b, d.Sync())
			default:
				fmt.Fprintln(&b, d.Write(r.Intn(41), anyText(r)))
			}
			fmt.Fprintln(&b, d.Down(), d.Loose(), d.Calls())
		}
		crash(t, d, nothing())
		return b.String() + strings.Join(all(t, d), "")
	}
	first := told()
	for range 10 {
		if told() != first {
			t.Fatal("another disk")
		}
	}
}
