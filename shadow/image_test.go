package shadow

import (
	"encoding/binary"
	"hash/crc32"
	"maps"
	"math/rand"
	"slices"
	"strings"
	"testing"

	"horologe/api"
	"horologe/disk"
	"horologe/page"
	"horologe/root"
)

// numbers are laid as two bytes each, the higher first.
func numbers(l ...int) string {
	var b []byte
	for _, n := range l {
		b = binary.BigEndian.AppendUint16(b, uint16(n))
	}
	return string(b)
}

// slotOf is the text of a root with a right check, whether it may be or not.
func slotOf(r root.Root) string {
	epoch := string(binary.BigEndian.AppendUint64(nil, uint64(r.Epoch)+1<<63))
	body := numbers(append([]int{r.Logical, len(r.Parts)}, r.Parts...)...)
	body += strings.Repeat("\x00", 44-len(body))
	sum := crc32.Checksum([]byte(body), crc32.MakeTable(crc32.Castagnoli))
	return epoch + string(binary.LittleEndian.AppendUint32(nil, sum)) + body + epoch
}

// tablePage is a part of a table: of each logical page its physical one, and 1 more.
func tablePage(id, epoch int, entries ...int) api.Page {
	return api.Page{ID: id, Epoch: epoch, Kind: api.KTable, Payload: numbers(entries...)}
}

func dataPage(id, epoch int, payload string) api.Page {
	return api.Page{ID: id, Epoch: epoch, Kind: api.KData, Payload: payload}
}

// rigged is a disk of so many physical pages, with these slots and pages.
func rigged(t *testing.T, many int, slots [2]string, pages ...api.Page) *disk.Disk {
	t.Helper()
	d := blankDisk(t, 2+4*many)
	for i, s := range slots {
		d.Write(i, s)
	}
	for _, p := range pages {
		if e := page.Write(d, p); e != api.OK {
			t.Fatal("page.Write", p, int(e))
		}
	}
	d.Sync()
	return d
}

// oneRoot are the slots of which only the first one says something.
func oneRoot(r root.Root) [2]string { return [2]string{slotOf(r), ""} }

// P14.2

func TestOpenWithoutRoots(t *testing.T) {
	opensNot(t, nil, api.ErrNil)
	opensNot(t, blankDisk(t, 1), api.ErrRange)
	for _, sectors := range []int{2, 3, 5, 6, 10, 4096} {
		opensNot(t, blankDisk(t, sectors), api.ErrCorrupt)
		opensNot(t, of(t, strings.Repeat("\x00", 64*sectors)), api.ErrCorrupt)
	}
	for _, sectors := range []int{1, 2, 6} {
		d := blankDisk(t, sectors)
		d.Write(0, slotOf(root.Root{Epoch: 1}))
		arm(t, d, 1)
		d.Sync()
		opensNot(t, d, api.ErrDown)
		crash(t, d, everything())
		if sectors == 1 {
			opensNot(t, d, api.ErrRange)
		} else {
			looks(t, open(t, d), 1, nil, nil)
		}
	}
}

// TestOpenWithoutPhysicalPages: a root without logical pages needs none.
func TestOpenWithoutPhysicalPages(t *testing.T) {
	for sectors := 2; sectors <= 5; sectors++ {
		d := blankDisk(t, sectors)
		d.Write(1, slotOf(root.Root{Epoch: 6}))
		s := open(t, d)
		looks(t, s, 6, nil, nil)
		counts(t, s, 0, 0, 0, 0)
		makesNone(t, s, "x", api.ErrFull)
		without(t, s, 0)
		commits(t, s, api.OK)
		looks(t, open(t, d), 7, nil, nil)
		d.Write(0, slotOf(root.Root{Epoch: 8, Logical: 1, Parts: []int{0}}))
		opensNot(t, d, api.ErrCorrupt)
	}
}

func TestOpen(t *testing.T) {
	d := rigged(t, 9, oneRoot(root.Root{Epoch: 5, Logical: 4, Parts: []int{7}}),
		tablePage(7, 3, 3, 0, 1, 9, 500, 65535), dataPage(2, 5, "a"), dataPage(0, 0, "b"), dataPage(8, 4, "c"), dataPage(1, 9, "none"))
	before := image(t, d)
	for range 2 {
		s := open(t, d)
		looks(t, s, 5, []int{0, 2, 3}, []int{0, 2, 7, 8})
		counts(t, s, 5, 4, 0, 0)
		reads(t, s, 0, "a")
		reads(t, s, 2, "b")
		reads(t, s, 3, "c")
		for _, l := range []int{-1, 1, 4, 5, 511} {
			without(t, s, l)
		}
	}
	if image(t, d) != before || d.Calls() != 2+4*5+1 {
		t.Error("Open has written")
	}
	s := open(t, d)
	makes(t, s, "d", 1)
	lies(t, d, dataPage(1, 6, "d"))
	commits(t, s, api.OK)
	looks(t, s, 6, []int{0, 1, 2, 3}, []int{0, 1, 2, 3, 8})
	r, slot := newest(t, d)
	if slot != 1 || r.Epoch != 6 || r.Logical != 4 {
		t.Error(slot, r)
	}
	lies(t, d, tablePage(3, 6, 3, 2, 1, 9))
}

// TestOpenNewer: which of two roots it is, in whichever slots they are, and that what the other one reaches is free.
func TestOpenNewer(t *testing.T) {
	pages := []api.Page{tablePage(0, 2, 2), dataPage(1, 2, "old"), tablePage(2, 3, 4), dataPage(3, 3, "new")}
	old := slotOf(root.Root{Epoch: 2, Logical: 1, Parts: []int{0}})
	now := slotOf(root.Root{Epoch: 3, Logical: 1, Parts: []int{2}})
	for _, slots := range [][2]string{{old, now}, {now, old}, {now, ""}, {"", now}, {now, now}} {
		d := rigged(t, 5, slots, pages...)
		s := open(t, d)
		looks(t, s, 3, []int{0}, []int{2, 3})
		counts(t, s, 3, 2, 0, 0)
		reads(t, s, 0, "new")
		makes(t, s, "x", 1)
		commits(t, s, api.OK)
		r, slot := newest(t, d)
		wantSlot := 1
		if slots[0] != now {
			wantSlot = 0
		}
		if r.Epoch != 4 || slot != wantSlot {
			t.Error(r, slot)
		}
		if other, _ := d.Read(1 - slot); other != now {
			t.Error("the committed root was written over")
		}
	}
	for _, slots := range [][2]string{{old, ""}, {"", old}, {old, now[:63]}, {now[1:], old}} {
		d := rigged(t, 5, slots, pages...)
		s := open(t, d)
		looks(t, s, 2, []int{0}, []int{0, 1})
		reads(t, s, 0, "old")
	}
	// What the newer one says is not taken for less, though the older one's pages are there.
	for _, broken := range []api.Page{tablePage(2, 3, 5), tablePage(2, 4, 4), dataPage(3, 4, "new"), tablePage(3, 3), dataPage(2, 3, "new")} {
		opensNot(t, rigged(t, 4, [2]string{old, now}, append(slices.Clone(pages), broken)...), api.ErrCorrupt)
	}
	same := slotOf(root.Root{Epoch: 2, Logical: 1, Parts: []int{2}})
	pages[2].Epoch, pages[3].Epoch = 2, 2
	reads(t, open(t, rigged(t, 4, [2]string{old, same}, pages...)), 0, "old")
	reads(t, open(t, rigged(t, 4, [2]string{same, old}, pages...)), 0, "new")
}

// TestOpenWrong: images of which one thing is not as it has to be.
func TestOpenWrong(t *testing.T) {
	r := root.Root{Epoch: 5, Logical: 3, Parts: []int{4}}
	good := []api.Page{tablePage(4, 5, 1, 0, 3), dataPage(0, 5, "a"), dataPage(2, 5, "c"), dataPage(1, 5, "free")}
	with := func(more ...api.Page) []api.Page { return append(slices.Clone(good), more...) }
	looks(t, open(t, rigged(t, 5, oneRoot(r), good...)), 5, []int{0, 2}, []int{0, 2, 4})
	for name, pages := range map[string][]api.Page{
		"a part of another kind":           with(api.Page{ID: 4, Epoch: 5, Kind: api.KData, Payload: numbers(1, 0, 3)}),
		"a part of kind 0":                 with(api.Page{ID: 4, Epoch: 5, Payload: numbers(1, 0, 3)}),
		"a part of kind 3":                 with(api.Page{ID: 4, Epoch: 5, Kind: 3, Payload: numbers(1, 0, 3)}),
		"a part of a later epoch":          with(tablePage(4, 6, 1, 0, 3)),
		"a part of the latest epoch":       with(tablePage(4, 1<<40, 1, 0, 3)),
		"a number above 1024":              with(tablePage(4, 5, 1, 0, 1025)),
		"a number far above 1024":          with(tablePage(4, 5, 65535, 0, 3)),
		"a page twice":                     with(tablePage(4, 5, 1, 1, 3)),
		"a page twice, not side by side":   with(tablePage(4, 5, 3, 1, 3)),
		"the part as a page":               with(tablePage(4, 5, 1, 5, 3)),
		"the part alone as a page":         with(tablePage(4, 5, 5)),
		"a page behind the last":           with(tablePage(4, 5, 1, 6, 3)),
		"the last page that there may be":  with(tablePage(4, 5, 1, 1024, 3)),
		"a page that was never written":    with(tablePage(4, 5, 1, 4, 3)),
		"a page of another kind":           with(api.Page{ID: 2, Epoch: 5, Kind: api.KTable, Payload: "c"}),
		"a page of kind 0":                 with(api.Page{ID: 0, Epoch: 5, Payload: "a"}),
		"a page of a later epoch":          with(dataPage(0, 6, "a")),
		"the last page, of a later epoch":  with(dataPage(2, 6, "c")),
		"a page of the latest epoch":       with(dataPage(2, 1<<40, "c")),
		"no part":                          good[1:],
		"no first page":                    append(slices.Clone(good[:1]), good[2:]...),
		"no last page":                     good[:2],
		"all pages of another kind":        with(api.Page{ID: 0, Epoch: 5, Kind: 9}, api.Page{ID: 2, Epoch: 5, Kind: 9}),
		"a part that says there is itself": with(tablePage(4, 5, 5, 5, 5)),
	} {
		t.Run(name, func(t *testing.T) { opensNot(t, rigged(t, 5, oneRoot(r), pages...), api.ErrCorrupt) })
	}
	for name, x := range map[string]root.Root{
		"a part that is not":               {Epoch: 5, Logical: 3, Parts: []int{5}},
		"the last part that there may be":  {Epoch: 5, Logical: 3, Parts: []int{1023}},
		"too few parts":                    {Epoch: 5, Logical: 3},
		"too many parts":                   {Epoch: 5, Logical: 3, Parts: []int{4, 1}},
		"one part, twice":                  {Epoch: 5, Logical: 117, Parts: []int{4, 4}},
		"no second part":                   {Epoch: 5, Logical: 117, Parts: []int{4, 3}},
		"a page as second part":            {Epoch: 5, Logical: 117, Parts: []int{4, 0}},
		"a page as the part":               {Epoch: 5, Logical: 3, Parts: []int{0}},
		"an epoch below that of its pages": {Epoch: 4, Logical: 3, Parts: []int{4}},
		"no epoch":                         {Epoch: 0, Logical: 3, Parts: []int{4}},
		"no epoch any more":                {Epoch: 1<<40 + 1, Logical: 3, Parts: []int{4}},
	} {
		t.Run(name, func(t *testing.T) { opensNot(t, rigged(t, 5, oneRoot(x), good...), api.ErrCorrupt) })
	}
}

// TestOpenSecondPart: what is wrong with a later part, and what stands on both sides of its edge.
func TestOpenSecondPart(t *testing.T) {
	r := root.Root{Epoch: 5, Logical: 118, Parts: []int{2, 0}}
	first := func(last int) api.Page { return tablePage(2, 5, append(make([]int, 115), last)...) }
	pages := []api.Page{first(2), tablePage(0, 4, 4, 5, 1), dataPage(1, 5, "115"), dataPage(3, 5, "116"), dataPage(4, 5, "117")}
	s := open(t, rigged(t, 6, oneRoot(r), pages...))
	looks(t, s, 5, []int{115, 116, 117}, []int{0, 1, 2, 3, 4})
	counts(t, s, 1, 5, 0, 0)
	reads(t, s, 115, "115")
	reads(t, s, 116, "116")
	reads(t, s, 117, "117")
	makes(t, s, "0", 0)
	for _, x := range []api.Page{
		tablePage(0, 4, 4, 2), tablePage(0, 4, 4, 3), tablePage(0, 4, 4, 1), tablePage(0, 4, 4, 7), tablePage(0, 4, 1025), tablePage(0, 4, 4, 6),
		tablePage(0, 6, 4, 5), dataPage(0, 4, numbers(4, 5)), first(5), first(4), first(1), first(3), first(6), first(1025),
	} {
		opensNot(t, rigged(t, 6, oneRoot(r), append(slices.Clone(pages), x)...), api.ErrCorrupt)
	}
	r.Parts = []int{0, 2}
	s = open(t, rigged(t, 6, oneRoot(r), append(slices.Clone(pages), tablePage(0, 4, 4, 5), tablePage(2, 5, 0, 2))...))
	looks(t, s, 5, []int{0, 1, 117}, []int{0, 1, 2, 3, 4})
}

// P14.8

// entries are the first numbers of a part's payload.
func entries(payload string, many int) []int {
	var l []int
	for i := range many {
		l = append(l, int(payload[2*i])<<8+int(payload[2*i+1]))
	}
	return l
}

// wantOpen is what the document says of a disk that is up and has two sectors: the root, and of each logical page the physical one; false: ErrCorrupt.
func wantOpen(d *disk.Disk) (root.Root, map[int]int, bool) {
	a, _ := d.Read(0)
	b, _ := d.Read(1)
	r, _, is := root.Newer(a, b)
	if !is {
		return r, nil, false
	}
	named, of := map[int]int{}, map[int]int{}
	isPage := func(id, kind int) bool {
		named[id]++
		p, e := page.Read(d, id)
		return e == api.OK && p.Kind == kind && p.Epoch <= r.Epoch && named[id] == 1
	}
	for i, id := range r.Parts {
		if !isPage(id, api.KTable) {
			return r, nil, false
		}
		p, _ := page.Read(d, id)
		for j, n := range entries(p.Payload, min(116, r.Logical-116*i)) {
			if n > 1024 {
				return r, nil, false
			}
			if n > 0 {
				of[116*i+j] = n - 1
			}
		}
	}
	for _, id := range of {
		if !isPage(id, api.KData) {
			return r, nil, false
		}
	}
	return r, of, true
}

// opensAs opens a disk, and holds that it is as the document says; whether it is a store.
func opensAs(t *testing.T, d *disk.Disk) bool {
	t.Helper()
	r, of, is := wantOpen(d)
	if !is {
		opensNot(t, d, api.ErrCorrupt)
		return false
	}
	s := open(t, d)
	reach := slices.Sorted(slices.Values(append(slices.Collect(maps.Values(of)), r.Parts...)))
	looks(t, s, r.Epoch, slices.Sorted(maps.Keys(of)), reach)
	counts(t, s, page.Many(d)-len(reach), len(reach), 0, 0)
	for l, id := range of {
		want, e := page.Read(d, id)
		if got, f := s.Read(l); got != want.Payload || e != api.OK || f != api.OK {
			t.Errorf("Read(%d) = %q, error %d", l, got, int(f))
		}
	}
	return true
}

// goesOn changes a store that was opened of an image, commits, and opens it anew.
func goesOn(t *testing.T, d *disk.Disk) {
	t.Helper()
	s := open(t, d)
	if pages := s.Pages(); len(pages) > 0 {
		drops(t, s, pages[0], api.OK)
	}
	l, e := s.New("on")
	if e != api.OK {
		return
	}
	if s.Commit() != api.OK {
		return
	}
	want := s.Pages()
	s = open(t, d)
	reads(t, s, l, "on")
	if !slices.Equal(s.Pages(), want) {
		t.Error(s.Pages(), want)
	}
	eachOnce(t, s, page.Many(d))
}

func TestOpenAnyBytes(t *testing.T) {
	r := rand.New(rand.NewSource(3))
	for range 300 {
		b := make([]byte, 65+r.Intn(64*40))
		r.Read(b)
		d := of(t, string(b))
		opensNot(t, d, api.ErrCorrupt)
		// And behind a right root.
		d.Write(r.Intn(2), slotOf(root.Root{Epoch: 1 + r.Intn(9), Logical: 1 + r.Intn(116), Parts: []int{r.Intn(10)}}))
		opensNot(t, d, api.ErrCorrupt)
		d.Write(r.Intn(2), slotOf(root.Root{Epoch: 10}))
		if !opensAs(t, d) {
			t.Error("a root without pages")
		}
		goesOn(t, d)
	}
	for n := 1; n <= 64; n++ {
		opensNot(t, of(t, strings.Repeat("x", n)), api.ErrRange)
	}
}

// TestOpenEachByte: of a right image any one byte is turned.
func TestOpenEachByte(t *testing.T) {
	d, s := begun(t, 5)
	makes(t, s, "a", 0)
	makes(t, s, "b", 1)
	commits(t, s, api.OK)
	writes(t, s, 1, "B", api.OK)
	commits(t, s, api.OK)
	whole := image(t, d)
	r, slot := newest(t, d)
	if slot != 0 || r.Epoch != 3 {
		t.Fatal(slot, r)
	}
	stores := 0
	for at := range whole {
		flips := []byte{1, 2, 4, 8, 16, 32, 64, 128, 255}
		if at < 128 {
			flips = nil
			for i := 1; i < 256; i++ {
				flips = append(flips, byte(i))
			}
		}
		for _, flip := range flips {
			b := []byte(whole)
			b[at] ^= flip
			d := of(t, string(b))
			is := opensAs(t, d)
			switch {
			case at < 64:
				// The newer root says nothing any more: the older one counts, whose part was left, and not written over.
				if !is || open(t, d).Epoch() != 2 {
					t.Error(at, flip, "the older root")
				}
			case at < 128 || slices.Contains([]int{1, 2}, (at-128)/256):
				if !is || open(t, d).Epoch() != 3 {
					t.Error(at, flip, "what is free")
				}
			case is:
				t.Error(at, flip, "a page that does not pass its check")
			}
			if is {
				stores++
			}
		}
		if t.Failed() {
			t.FailNow()
		}
	}
	if stores == 0 {
		t.Error("no store")
	}
}

// randomImage puts an image together of roots and pages that each pass their checks, and mostly fit.
func randomImage(t *testing.T, r *rand.Rand) *disk.Disk {
	many := 3 + r.Intn(6)
	epoch := func() int { return 3 + r.Intn(20)/19 - r.Intn(4)/3 }
	var slots [2]string
	for i := range slots {
		x := root.Root{Epoch: epoch(), Logical: 1 + r.Intn(5), Parts: []int{r.Intn(many + r.Intn(20)/19)}}
		switch r.Intn(12) {
		case 0:
			x.Logical, x.Parts = 0, nil
		case 1:
			x.Logical, x.Parts = 117+r.Intn(3), []int{r.Intn(many), r.Intn(many)}
		case 2:
			continue
		}
		slots[i] = slotOf(x)
	}
	var pages []api.Page
	for id := range many {
		p := api.Page{ID: id, Epoch: epoch(), Kind: api.KData, Payload: text(r.Intn(20), id)}
		if r.Intn(3) == 0 {
			var l []int
			for range r.Intn(6) {
				l = append(l, r.Intn(2)*r.Intn(many+1+r.Intn(20)/19))
			}
			if r.Intn(30) == 0 {
				l = append(l, 1022+r.Intn(5))
			}
			p.Kind, p.Payload = api.KTable, numbers(l...)
		}
		if r.Intn(30) == 0 {
			p.Kind = r.Intn(4)
		}
		if r.Intn(20) > 0 {
			pages = append(pages, p)
		}
	}
	return rigged(t, many, slots, pages...)
}

func TestOpenRandomImages(t *testing.T) {
	r := rand.New(rand.NewSource(8))
	stores, withPages := 0, 0
	for i := range 20000 {
		d := randomImage(t, r)
		if opensAs(t, d) {
			stores++
			if len(open(t, d).Pages()) > 1 {
				withPages++
			}
			goesOn(t, d)
		}
		if t.Failed() {
			t.Fatal("image", i)
		}
	}
	if stores < 500 || withPages < 100 || stores > 19500 {
		t.Error(stores, withPages)
	}
}
