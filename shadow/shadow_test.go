package shadow

import (
	"maps"
	"math"
	"math/rand"
	"slices"
	"strings"
	"testing"

	"horologe/api"
	"horologe/disk"
	"horologe/page"
	"horologe/root"
)

// badPages are numbers that no logical page has, whatever there is.
var badPages = []int{-1, -2, 512, 513, 1023, 1024, 1 << 32, math.MaxInt, math.MinInt}

// full is a payload with bytes 0 behind it.
func full(s string) string { return s + strings.Repeat("\x00", 232-len(s)) }

// text are so many bytes, of which no two that stand beside each other are alike, none of them 0.
func text(n, from int) string {
	b := make([]byte, n)
	for i := range b {
		b[i] = byte(1 + (from+i)%255)
	}
	return string(b)
}

// image is all that a disk's sectors say.
func image(t *testing.T, d *disk.Disk) string {
	t.Helper()
	var b strings.Builder
	for i := range d.Sectors() {
		s, e := d.Read(i)
		if e != api.OK {
			t.Fatal("Read", i, int(e))
		}
		b.WriteString(s)
	}
	return b.String()
}

// of is a disk with an image's bytes, all of them safe.
func of(t *testing.T, image string) *disk.Disk {
	t.Helper()
	d, e := disk.Of(image)
	if e != api.OK {
		t.Fatal("Of", len(image), int(e))
	}
	return d
}

// blankDisk is a disk of so many sectors, all of whose bytes are 255.
func blankDisk(t *testing.T, sectors int) *disk.Disk {
	t.Helper()
	return of(t, strings.Repeat("\xff", 64*sectors))
}

// begun is a disk of so many physical pages, and a store that was just made on it.
func begun(t *testing.T, pages int) (*disk.Disk, *Store) {
	t.Helper()
	d := blankDisk(t, 2+4*pages)
	s, e := Format(d)
	if s == nil || e != api.OK {
		t.Fatal("Format", pages, int(e))
	}
	return d, s
}

func open(t *testing.T, d *disk.Disk) *Store {
	t.Helper()
	s, e := Open(d)
	if s == nil || e != api.OK {
		t.Fatal("Open", int(e))
	}
	return s
}

func opensNot(t *testing.T, d *disk.Disk, want api.Errno) {
	t.Helper()
	if s, e := Open(d); s != nil || e != want {
		t.Errorf("Open: a store: %v, error %d, not %d", s != nil, int(e), int(want))
	}
}

func arm(t *testing.T, d *disk.Disk, n int) {
	t.Helper()
	if e := d.Arm(n); e != api.OK {
		t.Fatal("Arm", n, int(e))
	}
}

func crash(t *testing.T, d *disk.Disk, c api.Crash) {
	t.Helper()
	if e := d.Crash(c); e != api.OK {
		t.Fatal("Crash", int(e))
	}
}

// nothing is a crash that keeps nothing of what is loose.
func nothing() api.Crash { return api.Crash{Torn: -1} }

// everything is a crash that keeps all.
func everything() api.Crash {
	return api.Crash{Keep: slices.Repeat([]bool{true}, 4096), Torn: -1}
}

// makes makes a logical page that has to be want.
func makes(t *testing.T, s *Store, payload string, want int) {
	t.Helper()
	if l, e := s.New(payload); l != want || e != api.OK {
		t.Fatalf("New = %d, error %d, not %d", l, int(e), want)
	}
}

func makesNone(t *testing.T, s *Store, payload string, want api.Errno) {
	t.Helper()
	if l, e := s.New(payload); l != 0 || e != want {
		t.Errorf("New = %d, error %d, not %d", l, int(e), int(want))
	}
}

func writes(t *testing.T, s *Store, l int, payload string, want api.Errno) {
	t.Helper()
	if e := s.Write(l, payload); e != want {
		t.Errorf("Write(%d, %d bytes) = %d, not %d", l, len(payload), int(e), int(want))
	}
}

func reads(t *testing.T, s *Store, l int, want string) {
	t.Helper()
	if got, e := s.Read(l); got != full(want) || e != api.OK {
		t.Errorf("Read(%d) = %q, error %d, not %q", l, got, int(e), want)
	}
}

func readsNone(t *testing.T, s *Store, l int, want api.Errno) {
	t.Helper()
	if got, e := s.Read(l); got != "" || e != want {
		t.Errorf("Read(%d) = %q, error %d, not %d", l, got, int(e), int(want))
	}
}

func drops(t *testing.T, s *Store, l int, want api.Errno) {
	t.Helper()
	if e := s.Drop(l); e != want {
		t.Errorf("Drop(%d) = %d, not %d", l, int(e), int(want))
	}
}

func commits(t *testing.T, s *Store, want api.Errno) {
	t.Helper()
	if e := s.Commit(); e != want {
		t.Fatalf("Commit = %d, not %d", int(e), int(want))
	}
}

func aborts(t *testing.T, s *Store) {
	t.Helper()
	if !s.Abort() {
		t.Error("Abort = false")
	}
}

func counts(t *testing.T, s *Store, free, used, fresh, leaving int) {
	t.Helper()
	if a, b, c, d := s.Count(); a != free || b != used || c != fresh || d != leaving {
		t.Errorf("Count = %d, %d, %d, %d, not %d, %d, %d, %d", a, b, c, d, free, used, fresh, leaving)
	}
}

// looks holds a store's logical pages, its epoch, and what its root reaches.
func looks(t *testing.T, s *Store, epoch int, pages, reach []int) {
	t.Helper()
	if got := s.Epoch(); got != epoch {
		t.Errorf("Epoch = %d, not %d", got, epoch)
	}
	if got := s.Pages(); !slices.Equal(got, pages) {
		t.Errorf("Pages = %v, not %v", got, pages)
	}
	if got := s.Reach(); !slices.Equal(got, reach) {
		t.Errorf("Reach = %v, not %v", got, reach)
	}
}

// upTo are the numbers from 0 to below n.
func upTo(n int) []int {
	l := []int{}
	for i := range n {
		l = append(l, i)
	}
	return l
}

// lies holds a physical page as it lies on the disk.
func lies(t *testing.T, d *disk.Disk, want api.Page) {
	t.Helper()
	want.Payload = full(want.Payload)
	if got, e := page.Read(d, want.ID); got != want || e != api.OK {
		t.Errorf("physical page %d: epoch %d, kind %d, %q, error %d; not epoch %d, kind %d, %q", want.ID, got.Epoch, got.Kind, got.Payload, int(e), want.Epoch, want.Kind, want.Payload)
	}
}

// changed are the sectors in which two images differ.
func changed(before, after string) []int {
	l := []int{}
	for i := 0; i < len(before); i += 64 {
		if before[i:i+64] != after[i:i+64] {
			l = append(l, i/64)
		}
	}
	return l
}

// sectorsOf are the sectors of a physical page.
func sectorsOf(id int) []int { return []int{2 + 4*id, 3 + 4*id, 4 + 4*id, 5 + 4*id} }

// P14.1

func rootText(t *testing.T, r root.Root) string {
	t.Helper()
	s, e := root.Put(r)
	if e != api.OK {
		t.Fatal("root.Put", r, int(e))
	}
	return s
}

func TestFormat(t *testing.T) {
	for _, sectors := range []int{6, 7, 9, 10, 13, 14, 22, 1000, 4095, 4096} {
		d := blankDisk(t, sectors)
		s, e := Format(d)
		if s == nil || e != api.OK {
			t.Fatal(sectors, int(e))
		}
		want := rootText(t, root.Root{Epoch: 1}) + strings.Repeat("\x00", 64) + strings.Repeat("\xff", 64*(sectors-2))
		if image(t, d) != want {
			t.Error(sectors, "sectors are not as the document says")
		}
		if d.Loose() != 0 || d.Calls() != 3 {
			t.Error(sectors, d.Loose(), d.Calls())
		}
		looks(t, s, 1, nil, nil)
		counts(t, s, (sectors-2)/4, 0, 0, 0)
		readsNone(t, s, 0, api.ErrRange)
		crash(t, d, nothing())
		if image(t, d) != want {
			t.Error(sectors, "what was made is not safe")
		}
		s = open(t, d)
		looks(t, s, 1, nil, nil)
		counts(t, s, (sectors-2)/4, 0, 0, 0)
	}
}

func formatsNot(t *testing.T, d *disk.Disk, want api.Errno) {
	t.Helper()
	if s, e := Format(d); s != nil || e != want {
		t.Errorf("Format: a store: %v, error %d, not %d", s != nil, int(e), int(want))
	}
}

func TestFormatWrong(t *testing.T) {
	formatsNot(t, nil, api.ErrNil)
	for sectors := 1; sectors <= 5; sectors++ {
		d := blankDisk(t, sectors)
		formatsNot(t, d, api.ErrArg)
		if d.Calls() != 0 {
			t.Error(sectors, "written to")
		}
		arm(t, d, 1)
		d.Sync()
		// That there is no page is named ahead of the disk's errors.
		formatsNot(t, d, api.ErrArg)
	}
	d := blankDisk(t, 6)
	arm(t, d, 1)
	d.Sync()
	formatsNot(t, d, api.ErrDown)
}

// TestFormatDown: the disk's first error ends it, at whichever call.
func TestFormatDown(t *testing.T) {
	for n := 1; n <= 3; n++ {
		d := blankDisk(t, 6)
		arm(t, d, n)
		formatsNot(t, d, api.ErrDown)
		if d.Calls() != n {
			t.Error(n, d.Calls())
		}
		crash(t, d, nothing())
		if image(t, d) != strings.Repeat("\xff", 64*6) {
			t.Error(n, "safe too early")
		}
		opensNot(t, d, api.ErrCorrupt)
	}
	d := blankDisk(t, 6)
	arm(t, d, 4)
	if s, e := Format(d); s == nil || e != api.OK {
		t.Error(int(e))
	}
}

// TestFormatAgain: what was on the disk is not there any more, in whichever slot its root is.
func TestFormatAgain(t *testing.T) {
	for n := range 4 {
		d, s := begun(t, 5)
		makes(t, s, "old", 0)
		for range n {
			commits(t, s, api.OK)
		}
		s, e := Format(d)
		if e != api.OK {
			t.Fatal(int(e))
		}
		looks(t, s, 1, nil, nil)
		counts(t, s, 5, 0, 0, 0)
		s = open(t, d)
		looks(t, s, 1, nil, nil)
		makes(t, s, "new", 0)
		commits(t, s, api.OK)
		s = open(t, d)
		reads(t, s, 0, "new")
		looks(t, s, 2, []int{0}, []int{0, 1})
	}
}

// P14.3

// The chapter's example.
func TestExample(t *testing.T) {
	_, s := begun(t, 4)
	makes(t, s, "a", 0)
	commits(t, s, api.OK)
	writes(t, s, 0, "b", api.OK)
	reads(t, s, 0, "b")
	aborts(t, s)
	reads(t, s, 0, "a")
}

func TestNew(t *testing.T) {
	d, s := begun(t, 5)
	before := image(t, d)
	makes(t, s, "a", 0)
	if got := changed(before, image(t, d)); !slices.Equal(got, sectorsOf(0)) {
		t.Error(got)
	}
	lies(t, d, api.Page{ID: 0, Epoch: 2, Kind: api.KData, Payload: "a"})
	makes(t, s, "b", 1)
	makes(t, s, "c", 2)
	lies(t, d, api.Page{ID: 0, Epoch: 2, Kind: api.KData, Payload: "a"})
	lies(t, d, api.Page{ID: 2, Epoch: 2, Kind: api.KData, Payload: "c"})
	counts(t, s, 2, 0, 3, 0)
	looks(t, s, 1, []int{0, 1, 2}, nil)
	// The least that is not there, not the one behind the last.
	drops(t, s, 0, api.OK)
	drops(t, s, 1, api.OK)
	looks(t, s, 1, []int{2}, nil)
	counts(t, s, 4, 0, 1, 0)
	makes(t, s, "d", 0)
	makes(t, s, "e", 1)
	makes(t, s, "f", 3)
	reads(t, s, 0, "d")
	reads(t, s, 1, "e")
	reads(t, s, 2, "c")
	reads(t, s, 3, "f")
}

func TestPayloads(t *testing.T) {
	d, s := begun(t, 6)
	for i, n := range []int{0, 1, 231, 232} {
		makes(t, s, text(n, i), i)
		reads(t, s, i, text(n, i))
	}
	commits(t, s, api.OK)
	for i, n := range []int{0, 1, 231, 232} {
		reads(t, s, i, text(n, i))
		reads(t, open(t, d), i, text(n, i))
	}
	// A shorter one leaves nothing of a longer one, whether the page is fresh or not.
	for _, n := range []int{232, 231, 1, 0, 5} {
		writes(t, s, 3, text(n, n), api.OK)
		reads(t, s, 3, text(n, n))
	}
	for i := range 256 {
		payload := strings.Repeat(string([]byte{byte(i), 0, byte(255 - i)}), 77)
		writes(t, s, 3, payload, api.OK)
		reads(t, s, 3, payload)
	}
}

func TestPayloadsTooBig(t *testing.T) {
	d, s := begun(t, 3)
	makes(t, s, "a", 0)
	before, calls := image(t, d), d.Calls()
	for _, n := range []int{233, 234, 252, 256, 257, 5000} {
		makesNone(t, s, text(n, 1), api.ErrBig)
		writes(t, s, 0, text(n, 1), api.ErrBig)
		// It is named ahead of a page that is not.
		writes(t, s, 1, text(n, 1), api.ErrBig)
		writes(t, s, -1, text(n, 1), api.ErrBig)
	}
	if image(t, d) != before || d.Calls() != calls {
		t.Error("written to")
	}
	looks(t, s, 1, []int{0}, nil)
	counts(t, s, 2, 0, 1, 0)
	makes(t, s, "b", 1)
	makes(t, s, "c", 2)
	// And ahead of there being no room.
	makesNone(t, s, text(233, 1), api.ErrBig)
	makesNone(t, s, text(232, 1), api.ErrFull)
}

// without holds that a logical page is not there.
func without(t *testing.T, s *Store, l int) {
	t.Helper()
	writes(t, s, l, "x", api.ErrRange)
	readsNone(t, s, l, api.ErrRange)
	drops(t, s, l, api.ErrRange)
}

func TestPagesThatAreNot(t *testing.T) {
	d, s := begun(t, 6)
	for _, l := range append(slices.Clone(badPages), 0, 1, 5, 511) {
		without(t, s, l)
	}
	makes(t, s, "a", 0)
	makes(t, s, "b", 1)
	makes(t, s, "c", 2)
	commits(t, s, api.OK)
	drops(t, s, 1, api.OK)
	before, calls := image(t, d), d.Calls()
	for _, l := range append(slices.Clone(badPages), 1, 3, 4, 511) {
		without(t, s, l)
	}
	if image(t, d) != before || d.Calls() != calls {
		t.Error("written to")
	}
	looks(t, s, 2, []int{0, 2}, []int{0, 1, 2, 3})
	counts(t, s, 2, 3, 0, 1)
	commits(t, s, api.OK)
	without(t, s, 1)
	without(t, open(t, d), 1)
	without(t, open(t, d), 3)
}

// TestWriteElsewhere: what was committed stays where it is; what is fresh is written again where it lies.
func TestWriteElsewhere(t *testing.T) {
	d, s := begun(t, 6)
	makes(t, s, "a", 0)
	makes(t, s, "b", 1)
	commits(t, s, api.OK)
	looks(t, s, 2, []int{0, 1}, []int{0, 1, 2})
	before := image(t, d)
	writes(t, s, 0, "A", api.OK)
	if got := changed(before, image(t, d)); !slices.Equal(got, sectorsOf(3)) {
		t.Error(got)
	}
	lies(t, d, api.Page{ID: 0, Epoch: 2, Kind: api.KData, Payload: "a"})
	lies(t, d, api.Page{ID: 3, Epoch: 3, Kind: api.KData, Payload: "A"})
	counts(t, s, 2, 2, 1, 1)
	for _, x := range []string{"AA", "AAA", ""} {
		before = image(t, d)
		writes(t, s, 0, x, api.OK)
		for _, i := range changed(before, image(t, d)) {
			if !slices.Contains(sectorsOf(3), i) {
				t.Error(x, i)
			}
		}
		lies(t, d, api.Page{ID: 3, Epoch: 3, Kind: api.KData, Payload: x})
		counts(t, s, 2, 2, 1, 1)
	}
	reads(t, s, 0, "")
	reads(t, s, 1, "b")
	looks(t, s, 2, []int{0, 1}, []int{0, 1, 2})
	reads(t, open(t, d), 0, "a")
	commits(t, s, api.OK)
	looks(t, s, 3, []int{0, 1}, []int{1, 3, 4})
	counts(t, s, 3, 3, 0, 0)
	// It is not fresh any more: it is left where it is.
	writes(t, s, 0, "a3", api.OK)
	lies(t, d, api.Page{ID: 3, Epoch: 3, Kind: api.KData, Payload: ""})
	lies(t, d, api.Page{ID: 0, Epoch: 4, Kind: api.KData, Payload: "a3"})
}

func TestNoRoom(t *testing.T) {
	d, s := begun(t, 3)
	for i := range 3 {
		makes(t, s, "a", i)
	}
	counts(t, s, 0, 0, 3, 0)
	before, calls := image(t, d), d.Calls()
	makesNone(t, s, "x", api.ErrFull)
	if image(t, d) != before || d.Calls() != calls {
		t.Error("written to")
	}
	looks(t, s, 1, []int{0, 1, 2}, nil)
	// What is fresh needs no free page.
	writes(t, s, 1, "b", api.OK)
	reads(t, s, 1, "b")
	counts(t, s, 0, 0, 3, 0)
	drops(t, s, 2, api.OK)
	commits(t, s, api.OK)
	counts(t, s, 0, 3, 0, 0)
	before, calls = image(t, d), d.Calls()
	writes(t, s, 0, "x", api.ErrFull)
	writes(t, s, 1, "x", api.ErrFull)
	makesNone(t, s, "x", api.ErrFull)
	commits(t, s, api.ErrFull)
	if image(t, d) != before || d.Calls() != calls {
		t.Error("written to")
	}
	looks(t, s, 2, []int{0, 1}, []int{0, 1, 2})
	reads(t, s, 0, "a")
	reads(t, s, 1, "b")
	// What was committed makes no room till it is committed that it is left.
	drops(t, s, 0, api.OK)
	counts(t, s, 0, 2, 0, 1)
	makesNone(t, s, "x", api.ErrFull)
	writes(t, s, 1, "x", api.ErrFull)
	writes(t, s, 0, "x", api.ErrRange)
	drops(t, s, 1, api.OK)
	commits(t, s, api.OK)
	counts(t, s, 3, 0, 0, 0)
	makes(t, s, "new", 0)
}

func TestDrop(t *testing.T) {
	d, s := begun(t, 6)
	makes(t, s, "a", 0)
	makes(t, s, "b", 1)
	commits(t, s, api.OK)
	makes(t, s, "c", 2)
	before, calls := image(t, d), d.Calls()
	drops(t, s, 2, api.OK)
	counts(t, s, 3, 3, 0, 0)
	drops(t, s, 0, api.OK)
	counts(t, s, 3, 2, 0, 1)
	if image(t, d) != before || d.Calls() != calls {
		t.Error("written to")
	}
	looks(t, s, 2, []int{1}, []int{0, 1, 2})
	// The page's own number is taken again, another physical one.
	makes(t, s, "A", 0)
	lies(t, d, api.Page{ID: 0, Epoch: 2, Kind: api.KData, Payload: "a"})
	lies(t, d, api.Page{ID: 3, Epoch: 3, Kind: api.KData, Payload: "A"})
	counts(t, s, 2, 2, 1, 1)
	reads(t, open(t, d), 0, "a")
	commits(t, s, api.OK)
	reads(t, open(t, d), 0, "A")
	looks(t, s, 3, []int{0, 1}, []int{1, 3, 4})
}

func TestReadCorrupt(t *testing.T) {
	d, s := begun(t, 4)
	makes(t, s, "a", 0)
	makes(t, s, "b", 1)
	d.Write(2+4+3, "x")
	readsNone(t, s, 1, api.ErrCorrupt)
	reads(t, s, 0, "a")
	writes(t, s, 1, "c", api.OK)
	reads(t, s, 1, "c")
	page.Write(d, api.Page{ID: 2, Epoch: 2, Kind: api.KData, Payload: "b"})
	for i := range 4 {
		x, _ := d.Read(2 + 4*2 + i)
		d.Write(2+4+i, x)
	}
	readsNone(t, s, 1, api.ErrCorrupt)
}

// TestDown: what New and Write answer when the disk goes down at each of their calls, and what the store is then.
func TestDown(t *testing.T) {
	for n := 1; n <= 4; n++ {
		for _, act := range []string{"new", "write", "fresh"} {
			d, s := begun(t, 6)
			makes(t, s, "a", 0)
			makes(t, s, "b", 1)
			commits(t, s, api.OK)
			makes(t, s, "c", 2)
			arm(t, d, n)
			switch act {
			case "new":
				makesNone(t, s, text(232, 7), api.ErrDown)
			case "write":
				writes(t, s, 0, text(232, 7), api.ErrDown)
			case "fresh":
				writes(t, s, 2, text(232, 7), api.ErrDown)
			}
			looks(t, s, 2, []int{0, 1, 2}, []int{0, 1, 2})
			counts(t, s, 2, 3, 1, 0)
			readsNone(t, s, 0, api.ErrDown)
			readsNone(t, s, 3, api.ErrRange)
			writes(t, s, 1, "x", api.ErrDown)
			writes(t, s, 3, "x", api.ErrRange)
			makesNone(t, s, "x", api.ErrDown)
			makesNone(t, s, text(233, 1), api.ErrBig)
			looks(t, s, 2, []int{0, 1, 2}, []int{0, 1, 2})
			counts(t, s, 2, 3, 1, 0)
			opensNot(t, d, api.ErrDown)
			crash(t, d, everything())
			reads(t, s, 0, "a")
			reads(t, s, 1, "b")
			if act != "fresh" {
				reads(t, s, 2, "c")
			}
			without(t, s, 3)
			writes(t, s, 2, "C", api.OK)
			makes(t, s, "d", 3)
			counts(t, s, 1, 3, 2, 0)
			commits(t, s, api.OK)
			s = open(t, d)
			reads(t, s, 2, "C")
			reads(t, s, 3, "d")
		}
	}
}

// TestDownAndFull: that there is no room is named ahead of the disk's error.
func TestDownAndFull(t *testing.T) {
	d, s := begun(t, 2)
	makes(t, s, "a", 0)
	commits(t, s, api.OK)
	arm(t, d, 1)
	d.Sync()
	makesNone(t, s, "x", api.ErrFull)
	writes(t, s, 0, "x", api.ErrFull)
	commits(t, s, api.ErrFull)
	readsNone(t, s, 0, api.ErrDown)
	drops(t, s, 0, api.OK)
	aborts(t, s)
	crash(t, d, nothing())
	reads(t, s, 0, "a")
	commits(t, s, api.ErrFull)
}

func TestManyPages(t *testing.T) {
	d, s := begun(t, 1023)
	for l := range 512 {
		makes(t, s, text(l%233, l), l)
	}
	counts(t, s, 511, 0, 512, 0)
	makesNone(t, s, "x", api.ErrFull)
	makesNone(t, s, text(233, 0), api.ErrBig)
	for _, l := range badPages {
		without(t, s, l)
	}
	commits(t, s, api.OK)
	counts(t, s, 506, 517, 0, 0)
	makesNone(t, s, "x", api.ErrFull)
	looks(t, s, 2, upTo(512), upTo(517))
	s = open(t, d)
	looks(t, s, 2, upTo(512), upTo(517))
	for l := range 512 {
		reads(t, s, l, text(l%233, l))
	}
	makesNone(t, s, "x", api.ErrFull)
	writes(t, s, 511, "last", api.OK)
	reads(t, s, 511, "last")
	drops(t, s, 511, api.OK)
	without(t, s, 511)
	drops(t, s, 300, api.OK)
	drops(t, s, 7, api.OK)
	makes(t, s, "7", 7)
	makes(t, s, "300", 300)
	makes(t, s, "511", 511)
	makesNone(t, s, "x", api.ErrFull)
	commits(t, s, api.OK)
	s = open(t, d)
	looks(t, s, 3, upTo(512), s.Reach())
	counts(t, s, 506, 517, 0, 0)
	reads(t, s, 7, "7")
	reads(t, s, 511, "511")
	reads(t, s, 510, text(510%233, 510))
}

// P14.4

// newest is the root that a disk has, and its slot.
func newest(t *testing.T, d *disk.Disk) (root.Root, int) {
	t.Helper()
	a, _ := d.Read(0)
	b, _ := d.Read(1)
	r, slot, is := root.Newer(a, b)
	if !is {
		t.Fatal("no root")
	}
	return r, slot
}

// TestCommitBytes: what lies where behind commits.
func TestCommitBytes(t *testing.T) {
	d, s := begun(t, 8)
	makes(t, s, "a", 0)
	makes(t, s, text(232, 0), 1)
	makes(t, s, "c", 2)
	drops(t, s, 1, api.OK)
	before, calls := image(t, d), d.Calls()
	commits(t, s, api.OK)
	if got := changed(before, image(t, d)); !slices.Equal(got, append([]int{1}, sectorsOf(1)...)) {
		t.Error(got)
	}
	if d.Calls()-calls != 4+1+1+1 || d.Loose() != 0 {
		t.Error(d.Calls()-calls, d.Loose())
	}
	lies(t, d, api.Page{ID: 1, Epoch: 2, Kind: api.KTable, Payload: "\x00\x01\x00\x00\x00\x03"})
	want := rootText(t, root.Root{Epoch: 2, Logical: 3, Parts: []int{1}})
	if got, _ := d.Read(1); got != want {
		t.Errorf("%x", got)
	}
	looks(t, s, 2, []int{0, 2}, []int{0, 1, 2})
	counts(t, s, 5, 3, 0, 0)
	writes(t, s, 2, "C", api.OK)
	before = image(t, d)
	commits(t, s, api.OK)
	if got := changed(before, image(t, d)); !slices.Equal(got, append([]int{0}, sectorsOf(4)...)) {
		t.Error(got)
	}
	lies(t, d, api.Page{ID: 4, Epoch: 3, Kind: api.KTable, Payload: "\x00\x01\x00\x00\x00\x04"})
	want = rootText(t, root.Root{Epoch: 3, Logical: 3, Parts: []int{4}})
	if got, _ := d.Read(0); got != want {
		t.Errorf("%x", got)
	}
	looks(t, s, 3, []int{0, 2}, []int{0, 3, 4})
	counts(t, s, 5, 3, 0, 0)
}

// TestSlots: each commit takes the slot that the root is not in, behind an Open, too.
func TestSlots(t *testing.T) {
	d, s := begun(t, 4)
	makes(t, s, "a", 0)
	for i := range 12 {
		before := image(t, d)[64*(i%2) : 64*(i%2)+64]
		commits(t, s, api.OK)
		r, slot := newest(t, d)
		if r.Epoch != i+2 || slot != (i+1)%2 || s.Epoch() != i+2 {
			t.Error(i, r, slot, s.Epoch())
		}
		if image(t, d)[64*(i%2):64*(i%2)+64] != before {
			t.Error(i, "the other slot has changed")
		}
		counts(t, s, 2, 2, 0, 0)
		if i%3 == 2 {
			s = open(t, d)
			counts(t, s, 2, 2, 0, 0)
		}
		reads(t, s, 0, "a")
	}
}

// TestCommitOfNothing: without logical pages there is no part.
func TestCommitOfNothing(t *testing.T) {
	d, s := begun(t, 1)
	for i := range 3 {
		before, calls := image(t, d), d.Calls()
		commits(t, s, api.OK)
		if d.Calls()-calls != 3 {
			t.Error(d.Calls() - calls)
		}
		if got := changed(before, image(t, d)); !slices.Equal(got, []int{(i + 1) % 2}) {
			t.Error(got)
		}
		looks(t, s, i+2, nil, nil)
		counts(t, s, 1, 0, 0, 0)
		looks(t, open(t, d), i+2, nil, nil)
	}
	makes(t, s, "a", 0)
	commits(t, s, api.ErrFull)
	drops(t, s, 0, api.OK)
	commits(t, s, api.OK)
	looks(t, s, 5, nil, nil)
}

// TestCommitRoom: as many free pages as there are parts, and one fewer, for each number of parts.
func TestCommitRoom(t *testing.T) {
	for _, x := range []struct{ logical, parts int }{{1, 1}, {2, 1}, {115, 1}, {116, 1}, {117, 2}, {232, 2}, {233, 3}, {348, 3}, {349, 4}, {464, 4}, {465, 5}, {512, 5}} {
		for _, spare := range []int{-1, 0, 1} {
			d, s := begun(t, x.logical+x.parts+spare)
			for l := range x.logical {
				makes(t, s, "p", l)
			}
			if spare < 0 {
				before, calls := image(t, d), d.Calls()
				commits(t, s, api.ErrFull)
				if image(t, d) != before || d.Calls() != calls {
					t.Error(x, "written to")
				}
				looks(t, s, 1, upTo(x.logical), nil)
				counts(t, s, x.parts-1, 0, x.logical, 0)
				// One logical page fewer, and there is room.
				drops(t, s, 0, api.OK)
				commits(t, s, api.OK)
				looks(t, open(t, d), 2, upTo(x.logical)[1:], s.Reach())
				continue
			}
			calls := d.Calls()
			commits(t, s, api.OK)
			if d.Calls()-calls != 4*x.parts+3 {
				t.Error(x, d.Calls()-calls)
			}
			counts(t, s, spare, x.logical+x.parts, 0, 0)
			looks(t, s, 2, upTo(x.logical), upTo(x.logical+x.parts))
			looks(t, open(t, d), 2, upTo(x.logical), upTo(x.logical+x.parts))
			r, _ := newest(t, d)
			if r.Logical != x.logical || !slices.Equal(r.Parts, upTo(x.logical + x.parts)[x.logical:]) {
				t.Error(x, r)
			}
		}
	}
}

// TestCommitUpToTheLast: parts are needed up to the last logical page that is there, wherever there are none ahead of it.
func TestCommitUpToTheLast(t *testing.T) {
	d, s := begun(t, 121)
	for l := range 117 {
		makes(t, s, "p", l)
	}
	for l := range 116 {
		drops(t, s, l, api.OK)
	}
	commits(t, s, api.OK)
	r, _ := newest(t, d)
	if r.Logical != 117 || len(r.Parts) != 2 {
		t.Error(r)
	}
	looks(t, open(t, d), 2, []int{116}, s.Reach())
	counts(t, s, 118, 3, 0, 0)
	makes(t, s, "q", 0)
	drops(t, s, 116, api.OK)
	commits(t, s, api.OK)
	r, _ = newest(t, d)
	if r.Logical != 1 || len(r.Parts) != 1 {
		t.Error(r)
	}
	counts(t, s, 119, 2, 0, 0)
	looks(t, open(t, d), 3, []int{0}, s.Reach())
	drops(t, s, 0, api.OK)
	commits(t, s, api.OK)
	r, _ = newest(t, d)
	if r.Logical != 0 || len(r.Parts) != 0 {
		t.Error(r)
	}
	counts(t, s, 121, 0, 0, 0)
}

// TestCommitRoomOfOldParts: the committed table's parts, and what is leaving, are no room for the new one's.
func TestCommitRoomOfOldParts(t *testing.T) {
	d, s := begun(t, 3)
	makes(t, s, "a", 0)
	commits(t, s, api.OK)
	counts(t, s, 1, 2, 0, 0)
	writes(t, s, 0, "b", api.OK)
	counts(t, s, 0, 1, 1, 1)
	commits(t, s, api.ErrFull)
	counts(t, s, 0, 1, 1, 1)
	reads(t, s, 0, "b")
	reads(t, open(t, d), 0, "a")
	aborts(t, s)
	reads(t, s, 0, "a")
	commits(t, s, api.OK)
	counts(t, s, 1, 2, 0, 0)
}

// withEpoch is a disk of so many physical pages, whose root is of an epoch, in slot 0 or 1; its only logical page is 0, if there are two physical ones.
func withEpoch(t *testing.T, pages, epoch, slot int) *disk.Disk {
	t.Helper()
	d := blankDisk(t, 2+4*pages)
	r := root.Root{Epoch: epoch}
	if pages > 1 {
		r.Logical, r.Parts = 1, []int{1}
		page.Write(d, api.Page{ID: 0, Epoch: epoch, Kind: api.KData, Payload: "a"})
		page.Write(d, api.Page{ID: 1, Epoch: epoch, Kind: api.KTable, Payload: "\x00\x01"})
	}
	d.Write(slot, rootText(t, r))
	d.Sync()
	return d
}

func TestGreatestEpoch(t *testing.T) {
	for slot := range 2 {
		d := withEpoch(t, 4, 1<<40-1, slot)
		s := open(t, d)
		makes(t, s, "b", 1)
		lies(t, d, api.Page{ID: 2, Epoch: 1 << 40, Kind: api.KData, Payload: "b"})
		commits(t, s, api.OK)
		looks(t, s, 1<<40, []int{0, 1}, []int{0, 2, 3})
		for range 2 {
			before, calls := image(t, d), d.Calls()
			commits(t, s, api.ErrRange)
			if image(t, d) != before || d.Calls() != calls {
				t.Error("written to")
			}
			looks(t, s, 1<<40, []int{0, 1}, []int{0, 2, 3})
			counts(t, s, 1, 3, 0, 0)
			reads(t, s, 0, "a")
			reads(t, s, 1, "b")
			s = open(t, d)
		}
		drops(t, s, 1, api.OK)
		counts(t, s, 1, 2, 0, 1)
		commits(t, s, api.ErrRange)
		counts(t, s, 1, 2, 0, 1)
		aborts(t, s)
		looks(t, s, 1<<40, []int{0, 1}, []int{0, 2, 3})
		reads(t, open(t, d), 1, "b")
	}
}

// TestGreatestEpochWithoutRoom: that there is no room is named first.
func TestGreatestEpochWithoutRoom(t *testing.T) {
	d := withEpoch(t, 2, 1<<40, 0)
	s := open(t, d)
	commits(t, s, api.ErrFull)
	drops(t, s, 0, api.OK)
	commits(t, s, api.ErrRange)
	looks(t, open(t, d), 1<<40, []int{0}, []int{0, 1})
}

// TestGreatestEpochWrites: there is no next epoch in which a page could be written; what is there stays, whatever is tried.
func TestGreatestEpochWrites(t *testing.T) {
	d := withEpoch(t, 4, 1<<40, 0)
	s := open(t, d)
	if l, e := s.New("x"); e != api.OK && l != 0 {
		t.Error(l, int(e))
	} else if e != api.OK {
		looks(t, s, 1<<40, []int{0}, []int{0, 1})
		counts(t, s, 2, 2, 0, 0)
	}
	aborts(t, s)
	if e := s.Write(0, "x"); e != api.OK {
		reads(t, s, 0, "a")
		counts(t, s, 2, 2, 0, 0)
	}
	aborts(t, s)
	commits(t, s, api.ErrRange)
	s = open(t, d)
	looks(t, s, 1<<40, []int{0}, []int{0, 1})
	reads(t, s, 0, "a")
}

func TestAbort(t *testing.T) {
	d, s := begun(t, 8)
	// Ahead of any commit there is nothing to go back to but the empty table.
	aborts(t, s)
	looks(t, s, 1, nil, nil)
	makes(t, s, "a", 0)
	makes(t, s, "b", 1)
	for range 2 {
		aborts(t, s)
		looks(t, s, 1, nil, nil)
		counts(t, s, 8, 0, 0, 0)
		without(t, s, 0)
	}
	makes(t, s, "a", 0)
	makes(t, s, "b", 1)
	makes(t, s, "c", 2)
	commits(t, s, api.OK)
	aborts(t, s)
	looks(t, s, 2, []int{0, 1, 2}, upTo(4))
	counts(t, s, 4, 4, 0, 0)
	calls := d.Calls()
	writes(t, s, 0, "A", api.OK)
	writes(t, s, 0, "AA", api.OK)
	drops(t, s, 1, api.OK)
	makes(t, s, "B", 1)
	drops(t, s, 2, api.OK)
	makes(t, s, "C", 2)
	makes(t, s, "D", 3)
	counts(t, s, 0, 1, 4, 3)
	if d.Calls()-calls != 4*5 {
		t.Error(d.Calls() - calls)
	}
	calls = d.Calls()
	for range 2 {
		aborts(t, s)
		looks(t, s, 2, []int{0, 1, 2}, upTo(4))
		counts(t, s, 4, 4, 0, 0)
		reads(t, s, 0, "a")
		reads(t, s, 1, "b")
		reads(t, s, 2, "c")
		without(t, s, 3)
	}
	if d.Calls() != calls {
		t.Error("Abort writes")
	}
	writes(t, s, 2, "CC", api.OK)
	commits(t, s, api.OK)
	aborts(t, s)
	reads(t, s, 2, "CC")
	looks(t, open(t, d), 3, []int{0, 1, 2}, s.Reach())
	counts(t, s, 4, 4, 0, 0)
}

// brokenAnswers holds what a store answers that is broken, whatever the disk is.
func brokenAnswers(t *testing.T, d *disk.Disk, s *Store) {
	t.Helper()
	calls := d.Calls()
	for _, l := range append(slices.Clone(badPages), 0, 1, 2, 3, 511) {
		writes(t, s, l, "x", api.ErrDown)
		writes(t, s, l, text(233, 0), api.ErrDown)
		readsNone(t, s, l, api.ErrDown)
		drops(t, s, l, api.ErrDown)
	}
	makesNone(t, s, "x", api.ErrDown)
	makesNone(t, s, text(233, 0), api.ErrDown)
	if e := s.Commit(); e != api.ErrDown {
		t.Error(int(e))
	}
	if d.Calls() != calls {
		t.Error("written to")
	}
}

// eachOnce holds that free and fresh pages and those that are reached are all, and that those that are in use or leaving are reached.
func eachOnce(t *testing.T, s *Store, many int) {
	t.Helper()
	free, used, fresh, leaving := s.Count()
	if free < 0 || used < 0 || fresh < 0 || leaving < 0 || free+fresh+len(s.Reach()) != many || used+leaving != len(s.Reach()) {
		t.Errorf("of %d: Count = %d, %d, %d, %d, Reach = %v", many, free, used, fresh, leaving, s.Reach())
	}
}

// TestBroken: a commit in whose midst the disk goes down, at each of its calls.
func TestBroken(t *testing.T) {
	for n := 1; n <= 7; n++ {
		for _, c := range []api.Crash{nothing(), everything()} {
			d, s := begun(t, 8)
			makes(t, s, "a", 0)
			makes(t, s, "b", 1)
			commits(t, s, api.OK)
			writes(t, s, 0, "A", api.OK)
			drops(t, s, 1, api.OK)
			makes(t, s, "c", 1)
			makes(t, s, "d", 2)
			calls := d.Calls()
			arm(t, d, n)
			commits(t, s, api.ErrDown)
			if d.Calls()-calls != n {
				t.Error(n, d.Calls()-calls)
			}
			brokenAnswers(t, d, s)
			looks(t, s, 2, []int{0, 1, 2}, []int{0, 1, 2})
			eachOnce(t, s, 8)
			// It stays broken, though the disk comes up: only who opens it anew knows what is there.
			crash(t, d, c)
			brokenAnswers(t, d, s)
			looks(t, s, 2, []int{0, 1, 2}, []int{0, 1, 2})
			for range 2 {
				aborts(t, s)
				looks(t, s, 2, []int{0, 1}, []int{0, 1, 2})
				counts(t, s, 5, 3, 0, 0)
				brokenAnswers(t, d, s)
			}
			s = open(t, d)
			if n >= 6 && c.Keep != nil {
				looks(t, s, 3, []int{0, 1, 2}, []int{3, 4, 5, 6})
				reads(t, s, 0, "A")
				reads(t, s, 1, "c")
				reads(t, s, 2, "d")
			} else {
				looks(t, s, 2, []int{0, 1}, []int{0, 1, 2})
				reads(t, s, 0, "a")
				reads(t, s, 1, "b")
			}
			commits(t, s, api.OK)
		}
	}
}

// TestBrokenWithoutParts: without a part, too, a commit is two Syncs with the root between.
func TestBrokenWithoutParts(t *testing.T) {
	for n := 1; n <= 3; n++ {
		d, s := begun(t, 1)
		arm(t, d, n)
		commits(t, s, api.ErrDown)
		brokenAnswers(t, d, s)
		looks(t, s, 1, nil, nil)
		counts(t, s, 1, 0, 0, 0)
		crash(t, d, everything())
		brokenAnswers(t, d, s)
		want := 1
		if n > 1 {
			want = 2
		}
		looks(t, open(t, d), want, nil, nil)
	}
}

// TestCommitOnDiskThatIsDown: a disk that went down before is the first error, too.
func TestCommitOnDiskThatIsDown(t *testing.T) {
	d, s := begun(t, 5)
	makes(t, s, "a", 0)
	commits(t, s, api.OK)
	arm(t, d, 2)
	writes(t, s, 0, "b", api.ErrDown)
	readsNone(t, s, 0, api.ErrDown)
	commits(t, s, api.ErrDown)
	brokenAnswers(t, d, s)
	crash(t, d, everything())
	readsNone(t, s, 0, api.ErrDown)
	reads(t, open(t, d), 0, "a")
}

// P14.5

func TestNil(t *testing.T) {
	var s *Store
	for _, l := range append(slices.Clone(badPages), 0, 1) {
		writes(t, s, l, "x", api.ErrNil)
		writes(t, s, l, text(233, 0), api.ErrNil)
		readsNone(t, s, l, api.ErrNil)
		drops(t, s, l, api.ErrNil)
	}
	makesNone(t, s, "x", api.ErrNil)
	makesNone(t, s, text(233, 0), api.ErrNil)
	commits(t, s, api.ErrNil)
	if s.Abort() {
		t.Error("Abort of nil")
	}
	looks(t, s, 0, nil, nil)
	counts(t, s, 0, 0, 0, 0)
}

// TestLooksStay: what is answered is new memory, and stays as it was, whatever becomes of the store.
func TestLooksStay(t *testing.T) {
	for _, anew := range []bool{false, true} {
		d, s := begun(t, 8)
		makes(t, s, "a", 0)
		makes(t, s, "b", 1)
		commits(t, s, api.OK)
		if anew {
			s = open(t, d)
		}
		pages, reach := s.Pages(), s.Reach()
		a, _ := s.Read(0)
		for _, l := range [][]int{s.Pages(), s.Reach()} {
			for i := range l {
				l[i] = 7
			}
			_ = append(l, 5, 6, 7)
		}
		looks(t, s, 2, []int{0, 1}, []int{0, 1, 2})
		writes(t, s, 0, "A", api.OK)
		makes(t, s, "c", 2)
		commits(t, s, api.OK)
		if !slices.Equal(pages, []int{0, 1}) || !slices.Equal(reach, []int{0, 1, 2}) || a != full("a") {
			t.Error(pages, reach, a)
		}
		looks(t, s, 3, []int{0, 1, 2}, []int{1, 3, 4, 5})
		reads(t, s, 1, "b")
		reads(t, open(t, d), 0, "A")
	}
}

// TestReachOfPartsAlone: of a table whose pages are none, what is answered is not the store's own list of parts.
func TestReachOfPartsAlone(t *testing.T) {
	d := rigged(t, 4, oneRoot(root.Root{Epoch: 5, Logical: 1, Parts: []int{2}}), tablePage(2, 5, 0))
	s := open(t, d)
	s.Reach()[0] = 3
	looks(t, s, 5, nil, []int{2})
	makes(t, s, "a", 0)
	commits(t, s, api.OK)
	looks(t, s, 6, []int{0}, []int{0, 1})
	counts(t, s, 2, 2, 0, 0)
}

// TestStoresApart: stores over two disks know nothing of one another.
func TestStoresApart(t *testing.T) {
	_, a := begun(t, 4)
	_, b := begun(t, 4)
	makes(t, a, "a", 0)
	commits(t, a, api.OK)
	looks(t, b, 1, nil, nil)
	counts(t, b, 4, 0, 0, 0)
	makes(t, b, "b", 0)
	makes(t, b, "c", 1)
	reads(t, a, 0, "a")
	looks(t, a, 2, []int{0}, []int{0, 1})
	counts(t, a, 2, 2, 0, 0)
}

// twin is what a store has to be, told by sets: of each logical page the physical one, now and in what was committed; what each physical one says, and since when.
type twin struct {
	many, epoch int
	now, kept   map[int]int
	parts       []int
	says        map[int]string
	since       map[int]int
}

func newTwin(many int) *twin {
	return &twin{many: many, epoch: 1, now: map[int]int{}, kept: map[int]int{}, says: map[int]string{}, since: map[int]int{}}
}

func (w *twin) clone() *twin {
	c := *w
	c.now, c.kept, c.parts = maps.Clone(w.now), maps.Clone(w.kept), slices.Clone(w.parts)
	c.says, c.since = maps.Clone(w.says), maps.Clone(w.since)
	return &c
}

// reach are the physical pages of what was committed.
func (w *twin) reach() []int {
	return slices.Sorted(slices.Values(append(slices.Collect(maps.Values(w.kept)), w.parts...)))
}

// free are the physical pages that nothing names.
func (w *twin) free() []int {
	named := append(slices.Collect(maps.Values(w.now)), w.reach()...)
	return slices.DeleteFunc(upTo(w.many), func(id int) bool { return slices.Contains(named, id) })
}

func (w *twin) isFresh(id int) bool { return !slices.Contains(w.reach(), id) }

func (w *twin) counts() (int, int, int, int) {
	fresh, leaving := 0, 0
	for _, id := range w.now {
		if w.isFresh(id) {
			fresh++
		}
	}
	for l, id := range w.kept {
		if now, is := w.now[l]; !is || now != id {
			leaving++
		}
	}
	return len(w.free()), len(w.reach()) - leaving, fresh, leaving
}

func (w *twin) pages() []int { return slices.Sorted(maps.Keys(w.now)) }

func (w *twin) logical() int {
	if len(w.now) == 0 {
		return 0
	}
	return slices.Max(w.pages()) + 1
}

// put writes a logical page, whether it is there or not.
func (w *twin) put(l int, payload string) api.Errno {
	id, is := w.now[l]
	if !is || !w.isFresh(id) {
		free := w.free()
		if len(free) == 0 {
			return api.ErrFull
		}
		id = free[0]
	}
	w.now[l], w.says[id], w.since[id] = id, full(payload), w.epoch+1
	return api.OK
}

func (w *twin) makes(payload string) (int, api.Errno) {
	if len(payload) > 232 {
		return 0, api.ErrBig
	}
	for l := range 512 {
		if _, is := w.now[l]; !is {
			if e := w.put(l, payload); e != api.OK {
				return 0, e
			}
			return l, api.OK
		}
	}
	return 0, api.ErrFull
}

func (w *twin) write(l int, payload string) api.Errno {
	if len(payload) > 232 {
		return api.ErrBig
	}
	if _, is := w.now[l]; !is {
		return api.ErrRange
	}
	return w.put(l, payload)
}

func (w *twin) read(l int) (string, api.Errno) {
	id, is := w.now[l]
	if !is {
		return "", api.ErrRange
	}
	return w.says[id], api.OK
}

func (w *twin) drop(l int) api.Errno {
	if _, is := w.now[l]; !is {
		return api.ErrRange
	}
	delete(w.now, l)
	return api.OK
}

// need is how many parts the table has.
func (w *twin) need() int { return (w.logical() + 115) / 116 }

func (w *twin) commit() api.Errno {
	free := w.free()
	if len(free) < w.need() {
		return api.ErrFull
	}
	if w.epoch == 1<<40 {
		return api.ErrRange
	}
	w.parts = free[:w.need()]
	w.kept = maps.Clone(w.now)
	w.epoch++
	return api.OK
}

func (w *twin) abort() { w.now = maps.Clone(w.kept) }

// shows holds that a store looks as its twin.
func (w *twin) shows(t *testing.T, s *Store) {
	t.Helper()
	looks(t, s, w.epoch, w.pages(), w.reach())
	a, b, c, d := w.counts()
	counts(t, s, a, b, c, d)
	eachOnce(t, s, w.many)
}

// holds holds that a store is as its twin, with all that is to be read.
func (w *twin) holds(t *testing.T, d *disk.Disk, s *Store) {
	t.Helper()
	w.shows(t, s)
	for l, id := range w.now {
		if got, e := s.Read(l); got != w.says[id] || e != api.OK {
			t.Errorf("Read(%d) = %q, error %d, not %q", l, got, int(e), w.says[id])
		}
		lies(t, d, api.Page{ID: id, Epoch: w.since[id], Kind: api.KData, Payload: w.says[id]})
	}
	for _, id := range w.kept {
		lies(t, d, api.Page{ID: id, Epoch: w.since[id], Kind: api.KData, Payload: w.says[id]})
	}
}

// opened is the twin of what is opened anew.
func (w *twin) opened() *twin {
	c := w.clone()
	c.abort()
	return c
}

// somewhere is a logical page, which is there mostly.
func (w *twin) somewhere(r *rand.Rand) int {
	if l := w.pages(); len(l) > 0 && r.Intn(10) > 0 {
		return l[r.Intn(len(l))]
	}
	if r.Intn(3) == 0 {
		return badPages[r.Intn(len(badPages))]
	}
	return r.Intn(w.logical() + 2)
}

func randomPayload(r *rand.Rand) string {
	n := []int{0, 1, 5, 60, 100, 231, 232, 233, r.Intn(233)}[r.Intn(9)]
	return text(n, r.Intn(1000))
}

// step does one act with a store and its twin, and holds what it answers.
func step(t *testing.T, r *rand.Rand, s *Store, w *twin, kind int) {
	t.Helper()
	l, payload := w.somewhere(r), randomPayload(r)
	switch kind {
	case 0, 1, 2:
		n, f := w.makes(payload)
		if got, e := s.New(payload); got != n || e != f {
			t.Errorf("New(%d bytes) = %d, error %d, not %d, error %d", len(payload), got, int(e), n, int(f))
		}
	case 3, 4, 5:
		writes(t, s, l, payload, w.write(l, payload))
	case 6, 7:
		want, f := w.read(l)
		if got, e := s.Read(l); got != want || e != f {
			t.Errorf("Read(%d) = %q, error %d, not %q, error %d", l, got, int(e), want, int(f))
		}
	case 8, 9:
		drops(t, s, l, w.drop(l))
	case 10, 11:
		commits(t, s, w.commit())
	case 12:
		aborts(t, s)
		w.abort()
	}
}

// TestAgainstTwin: many acts of every kind, one behind the other, on disks of few pages and of some more; and what is opened anew between.
func TestAgainstTwin(t *testing.T) {
	for seed := range int64(60) {
		r := rand.New(rand.NewSource(seed))
		many := 1 + r.Intn(12)
		d, s := begun(t, many)
		w := newTwin(many)
		for i := range 150 {
			step(t, r, s, w, r.Intn(13))
			w.holds(t, d, s)
			if i%10 == 9 {
				w.opened().holds(t, d, open(t, d))
			}
			if r.Intn(40) == 0 {
				s, w = open(t, d), w.opened()
			}
			if t.Failed() {
				t.Fatal("seed", seed, "act", i)
			}
		}
	}
}

// TestAgainstTwinLarge: some hundred logical pages, in several parts.
func TestAgainstTwinLarge(t *testing.T) {
	for seed := range int64(3) {
		r := rand.New(rand.NewSource(100 + seed))
		many := []int{260, 700, 1023}[seed]
		d, s := begun(t, many)
		w := newTwin(many)
		for i := range 900 {
			kind := r.Intn(26)
			if i < 600 && kind > 12 {
				kind = 0
			}
			step(t, r, s, w, kind%13)
			if i%100 == 99 {
				w.holds(t, d, s)
				w.opened().holds(t, d, open(t, d))
			}
			if t.Failed() {
				t.Fatal("seed", seed, "act", i)
			}
		}
	}
}

// TestAgain: the same acts make the same disk.
func TestAgain(t *testing.T) {
	var images [2]string
	for i := range images {
		r := rand.New(rand.NewSource(5))
		d, s := begun(t, 9)
		w := newTwin(9)
		for range 200 {
			step(t, r, s, w, r.Intn(13))
		}
		images[i] = image(t, d)
	}
	if images[0] != images[1] {
		t.Error("two disks")
	}
}
